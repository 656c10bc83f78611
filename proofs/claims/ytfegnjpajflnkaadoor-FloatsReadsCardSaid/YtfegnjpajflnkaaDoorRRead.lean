/- What the document's read answers, for any text: it is right wherever the text is one of Text's. -/
import Derived.Test.YtfegnjpajflnkaaDoorRForm
import Derived.Deep.DeepCutAuto
namespace Go.Proofs.YtfegnjpajflnkaaDoor
open Go.RowKit Fl
set_option linter.unusedSimpArgs false
set_option linter.unusedVariables false

theorem str_len (t : List UInt8) : ((⟨t.toArray⟩ : ByteArray).size : Int) = (t.length : Int) := by simp [ByteArray.size]
theorem sign_split (s : List UInt8) : (Lib.hasPrefix s [45] = true ∧ s = 45 :: Lib.trimPrefix s [45]) ∨ (Lib.hasPrefix s [45] = false ∧ Lib.trimPrefix s [45] = s ∧ (s = [] ∨ ∃ c q, s = c :: q ∧ ((c.toNat : Int) == 45) = false)) := by
  cases s with
  | nil => right; exact ⟨rfl, rfl, Or.inl rfl⟩
  | cons c q =>
    by_cases h : c = 45
    · subst h
      left
      exact ⟨rfl, rfl⟩
    · right
      have hp : Lib.hasPrefix (c :: q) [45] = false := by
        show List.isPrefixOf [45] (c :: q) = false
        simp [List.isPrefixOf]
        exact fun e => h e.symm
      refine ⟨hp, by unfold Lib.trimPrefix; rw [hp]; simp, Or.inr ⟨c, q, rfl, ?_⟩⟩
      simp only [beq_eq_false_iff_ne, ne_eq]
      intro hc
      exact h (UInt8.toNat_inj.1 (by have : c.toNat = 45 := by omega
                                     exact this))
theorem sh_frac (M nn : Nat) (hn : nn ≤ 13) (hM : M < 16 ^ nn) : IntKind.u64.wrap ((M : Int) * 2 ^ (4 * (13 - (nn : Int))).toNat) = ((M * 16 ^ (13 - nn) : Nat) : Int) ∧ M * 16 ^ (13 - nn) < 4503599627370496 := by
  rw [show (4 * (13 - (nn : Int))).toNat = 4 * (13 - nn) by omega, IntKind.wrap_u64]
  have e16 : (16 : Nat) ^ (13 - nn) = 2 ^ (4 * (13 - nn)) := by rw [Nat.pow_mul]
  have hb : M * 16 ^ (13 - nn) < 16 ^ 13 := by
    have : 16 ^ nn * 16 ^ (13 - nn) = 16 ^ 13 := by rw [← Nat.pow_add]; congr 1; omega
    rw [← this]
    exact Nat.mul_lt_mul_of_pos_right hM (Nat.pow_pos (by decide))
  rw [e16] at hb ⊢
  have e3 : ((M * 2 ^ (4 * (13 - nn)) : Nat) : Int) = (M : Int) * 2 ^ (4 * (13 - nn)) := by rw [Int.natCast_mul, Int.natCast_pow]; rfl
  rw [← e3]
  generalize M * 2 ^ (4 * (13 - nn)) = z at *
  omega

def eV (x : UInt8) (acc : Nat) : Int := if x = 45 then -(acc : Int) else (acc : Int)

set_option maxRecDepth 20000 in
set_option maxHeartbeats 8000000 in
theorem read_walk (s t : List UInt8) (n : Bool) (hl : s.length ≤ 9223372036854775807) (h1 : (s == [110, 97, 110]) = false) (h2 : (s == [105, 110, 102]) = false) (h3 : (s == [45, 105, 110, 102]) = false) (h4 : (s == [45, 48, 120, 48, 112, 43, 48]) = false)
    (hd : Hidden ((n = true ∧ s = 45 :: t) ∨ (n = false ∧ t = s ∧ (s = [] ∨ ∃ c q, s = c :: q ∧ ((c.toNat : Int) == 45) = false))))
    (g0 : Hidden ((∀ F E, ¬ Form t F E) → Good s 0)) (gv : Hidden (∀ v, U v → t.take 3 = [48, 120, 49] → (∀ F E, Form t F E → v = signV n + joinS F E) → Good s v)) (w : World) :
    Calls Tryd.prog 59 #[.string ⟨s.toArray⟩] w fun e w' => ∃ v, e = .returned (.int .u64 v) ∧ Good s v ∧ w = w' := by
  have hsl := str_len s
  have htl := str_len t
  go_enter Tryd.func59, Tryd.ntmps59
  go_upto_region 11 with fail
  go_cut [27] (fun b wx => b = .bool n ∧ wx = w)
  case first =>
    rcases (show _ ∨ _ from hd) with ⟨rfl, e⟩ | ⟨rfl, _, e | ⟨c, q, e, hc⟩⟩
    · have hx : ∀ W : World, (Instr.index 9 (.string ⟨s.toArray⟩) (.int .i64 0)).run Tryd.prog W = .ok (.int .u8 45) W := fun W => str_index s 0 45 (by rw [e]; rfl) W
      have hp : 0 < s.length := by rw [e]; simp
      clear e
      go_wp2
      go_meet
      exact ⟨rfl, rfl⟩
    · have hp : s.length = 0 := by rw [e]; rfl
      clear e
      go_wp2
      go_meet
      exact ⟨rfl, rfl⟩
    · have hx : ∀ W : World, (Instr.index 9 (.string ⟨s.toArray⟩) (.int .i64 0)).run Tryd.prog W = .ok (.int .u8 (c.toNat : Int)) W := fun W => str_index s 0 c (by rw [e]; rfl) W
      have hp : 0 < s.length := by rw [e]; simp
      clear e
      go_wp2
      go_meet
      exact ⟨rfl, rfl⟩
  case rest =>
    obtain ⟨rfl, rfl⟩ := hcut
    go_upto_if 27 with fail
    go_cut [0, 3] (fun tv sv wx => tv = .string ⟨t.toArray⟩ ∧ sv = .int .u64 (signV n) ∧ wx = wc)
    case first =>
      rcases (show _ ∨ _ from hd) with ⟨rfl, e⟩ | ⟨rfl, e, _⟩
      · have hx : ∀ W : World, (Instr.slice 9 (.string ⟨s.toArray⟩) (some (.int .i64 1)) none none).run Tryd.prog W = .ok (.string ⟨t.toArray⟩) W := fun W => (slice_from s 1 (by rw [e]; simp) hl W).trans (by rw [e]; rfl)
        clear e
        go_wp2
        go_meet
        exact ⟨rfl, rfl, rfl⟩
      · subst e
        go_wp2
        go_meet
        exact ⟨rfl, rfl, rfl⟩
    case rest =>
      obtain ⟨rfl, rfl, rfl⟩ := hcut
      have htle : t.length ≤ 9223372036854775807 := by
        rcases (show _ ∨ _ from hd) with ⟨_, e⟩ | ⟨_, e, _⟩
        · rw [e, List.length_cons] at hl
          omega
        · rw [e]
          exact hl
      clear h1 h2 h3 h4 hsl hd hl
      by_cases c1 : t.length < 6
      · go_wp2
        go_ret
        exact ⟨_, rfl, (show _ → _ from g0) fun F E h => by have := (form_tail h).choose_spec.choose_spec; omega, rfl⟩
      by_cases c2 : 40 < t.length
      · go_wp2
        go_ret
        exact ⟨_, rfl, (show _ → _ from g0) fun F E h => by have := (form_tail h).choose_spec.choose_spec; omega, rfl⟩
      have hsl3 : ∀ W : World, (Instr.slice 9 (.string ⟨t.toArray⟩) none (some (.int .i64 3)) none).run Tryd.prog W = .ok (.string ⟨(t.take 3).toArray⟩) W := fun W => slice_to t 3 (by omega) (by omega) W
      by_cases c3 : t.take 3 = [48, 120, 49]
      · rw [c3] at hsl3
        have c3H : Hidden (t.take 3 = [48, 120, 49]) := c3
        clear c3
        obtain ⟨c, hc⟩ : ∃ c, t[3]? = some c := ⟨t[3], List.getElem?_eq_getElem (by omega)⟩
        have hx3 : ∀ W : World, (Instr.index 9 (.string ⟨t.toArray⟩) (.int .i64 3)).run Tryd.prog W = .ok (.int .u8 (c.toNat : Int)) W := fun W => str_index t 3 c hc W
        have hcH : Hidden (t[3]? = some c) := hc
        clear hc
        go_upto_if 46 with fail
        go_cut [4, 5, 6] (fun iv mv nv wx => ∃ i M nn : Nat, iv = .int .i64 (i : Int) ∧ mv = .int .u64 (M : Int) ∧ nv = .int .i64 (nn : Int) ∧ nn ≤ 13 ∧ M < 16 ^ nn ∧ 3 ≤ i ∧ i ≤ t.length ∧ fracS t = (M * 16 ^ (13 - nn), t.drop i) ∧ wx = wc)
        case first =>
          by_cases c4 : c = 46
          · subst c4
            go_wp2
            go_loopg [4, 5, 6] 13 (fun k iv mv nv wr => ∃ j acc : Nat, iv = .int .i64 ((j : Int) + 4) ∧ mv = .int .u64 (acc : Int) ∧ nv = .int .i64 (j : Int) ∧ j ≤ 13 ∧ j + 4 ≤ t.length ∧ acc < 16 ^ j ∧ scanH (13 - j) (t.drop (j + 4)) acc = scanH 13 (t.drop 4) 0 ∧ k = 13 - j ∧ wr = wc)
            case atStart => exact ⟨0, 0, rfl, rfl, rfl, by omega, by omega, by simp, rfl, rfl, rfl⟩
            case round =>
              obtain ⟨j, acc, rfl, rfl, rfl, hj, hjl, hacc, hsc, hgk, rfl⟩ := hrel
              have hgkH : Hidden (gk = 13 - j) := hgk
              clear hgk
              have hscH : Hidden (scanH (13 - j) (t.drop (j + 4)) acc = scanH 13 (t.drop 4) 0) := hsc
              have haccH : Hidden (acc < 16 ^ j) := hacc
              clear hsc hacc
              by_cases c5 : j + 4 < t.length
              · by_cases c6 : j < 13
                · obtain ⟨d, hd⟩ : ∃ d, t[j + 4]? = some d := ⟨t[j + 4], List.getElem?_eq_getElem c5⟩
                  have hdr : t.drop (j + 4) = d :: t.drop (j + 5) := by
                    have := List.drop_eq_getElem_cons c5
                    rw [List.getElem?_eq_getElem c5] at hd
                    cases hd
                    exact this
                  have hstep : scanH (13 - j) (t.drop (j + 4)) acc = if hix d < 0 then (acc, t.drop (j + 4)) else scanH (13 - (j + 1)) (t.drop (j + 5)) (acc * 16 + (hix d).toNat) := by
                    rw [hdr, show 13 - j = (13 - (j + 1)) + 1 by omega, scanH]
                  have hxj : ∀ W : World, (Instr.index 9 (.string ⟨t.toArray⟩) (.int .i64 ((j : Int) + 4))).run Tryd.prog W = .ok (.int .u8 (d.toNat : Int)) W := fun W => by
                    have := str_index t (j + 4) d hd W
                    simpa using this
                  have kd := digit_any d
                  have hbd := hix_bounds d
                  clear hdr hd
                  by_cases c7 : hix d < 0
                  · rw [if_pos c7] at hstep
                    have hfin : Hidden (scanH 13 (t.drop 4) 0 = (acc, t.drop (j + 4))) := (show _ = _ from hscH).symm.trans hstep
                    clear hstep
                    generalize hix d = D at *
                    go_wp2_with (go_at_call 62; refine (kd _).mono ?_; rintro e w' ⟨rfl, rfl⟩)
                    go_meet
                    exact ⟨j + 4, acc, j, by go_num, rfl, rfl, hj, haccH, by omega, by omega, frac_exit t acc j hcH (by omega) hfin, rfl⟩
                  · rw [if_neg c7] at hstep
                    obtain ⟨D, hD⟩ := Int.eq_ofNat_of_zero_le (show 0 ≤ hix d by omega)
                    rw [hD] at kd hbd
                    rw [hD, Int.toNat_natCast] at hstep
                    have hp : acc < 281474976710656 := by
                      have := Nat.pow_le_pow_right (show 0 < 16 by decide) (show j ≤ 12 by omega)
                      have h' : acc < 16 ^ j := haccH
                      omega
                    have hor := or_digit acc D hp (by omega)
                    have hp2 : Hidden (acc * 16 + D < 16 ^ (j + 1)) := by
                      show _ < _
                      have h' : acc < 16 ^ j := haccH
                      rw [Nat.pow_succ]
                      omega
                    have hnx : Hidden (scanH (13 - (j + 1)) (t.drop (j + 1 + 4)) (acc * 16 + D) = scanH 13 (t.drop 4) 0) := by
                      show _ = _
                      rw [show j + 1 + 4 = j + 5 by omega, ← hstep]
                      exact hscH
                    have hD16 : D < 16 := by omega
                    clear hstep hD c7 hscH haccH
                    go_wp2_with (go_at_call 62; refine (kd _).mono ?_; rintro e w' ⟨rfl, rfl⟩)
                    go_roundg (13 - (j + 1))
                    case measure =>
                      have : gk = 13 - j := hgkH
                      omega
                    case rel => exact ⟨j + 1, acc * 16 + D, by go_num, by go_num, by go_num, by omega, by omega, hp2, hnx, rfl, rfl⟩
                · obtain rfl : j = 13 := by omega
                  have hfin : Hidden (scanH 13 (t.drop 4) 0 = (acc, t.drop (13 + 4))) := (show _ = _ from hscH).symm
                  go_wp2
                  go_meet
                  exact ⟨13 + 4, acc, 13, by go_num, rfl, rfl, hj, haccH, by omega, by omega, frac_exit t acc 13 hcH (by omega) hfin, rfl⟩
              · have e : t.drop (j + 4) = [] := List.drop_eq_nil_of_le (by omega)
                have hfin : Hidden (scanH 13 (t.drop 4) 0 = (acc, t.drop (j + 4))) := (show _ = _ from hscH).symm.trans (by
                  rw [e]
                  cases 13 - j <;> rfl)
                clear e
                go_wp2
                go_meet
                exact ⟨j + 4, acc, j, by go_num, rfl, rfl, hj, haccH, by omega, by omega, frac_exit t acc j hcH (by omega) hfin, rfl⟩
          · have c4' : ((c.toNat : Int) == 46) = false := by
              simp only [beq_eq_false_iff_ne, ne_eq]
              intro h
              exact c4 (UInt8.toNat_inj.1 (show c.toNat = 46 by omega))
            go_wp2
            go_meet
            exact ⟨3, 0, 0, rfl, rfl, rfl, by omega, by simp, by omega, by omega, frac_none t (by
              intro h
              rw [show t[3]? = some c from hcH] at h
              exact c4 (Option.some.inj h)), rfl⟩
        case rest =>
          obtain ⟨i, M, nn, rfl, rfl, rfl, hnn, hM, hi, hi2, hfr, rfl⟩ := hcut
          obtain ⟨hsh, hm2⟩ := sh_frac M nn hnn hM
          generalize M * 16 ^ (13 - nn) = m at *
          have hfrH : Hidden (fracS t = (m, t.drop i)) := hfr
          clear hfr hM hsl3 hx3 hcH
          by_cases d1 : t.length < i + 3
          · go_wp2
            go_ret
            exact ⟨_, rfl, (show _ → _ from g0) fun F E h => by
              obtain ⟨_, x, ds, e, e1, e2, _⟩ := form_at h hfrH
              have := congrArg List.length e
              simp at this
              omega, rfl⟩
          by_cases d2 : i + 6 < t.length
          · go_wp2
            go_ret
            exact ⟨_, rfl, (show _ → _ from g0) fun F E h => by
              obtain ⟨_, x, ds, e, e1, e2, _⟩ := form_at h hfrH
              have := congrArg List.length e
              simp at this
              omega, rfl⟩
          have hget : Hidden (∀ j c, (t.drop i)[j]? = some c → t[i + j]? = some c) := by
            intro j c h
            rwa [List.getElem?_drop] at h
          obtain ⟨p, x, ds, hrest⟩ : ∃ p x ds, t.drop i = p :: x :: ds := by
            have hln : (t.drop i).length = t.length - i := by simp
            cases e : t.drop i with
            | nil => rw [e] at hln; simp at hln; omega
            | cons p q =>
              cases q with
              | nil => rw [e] at hln; simp at hln; omega
              | cons x ds => exact ⟨p, x, ds, rfl⟩
          have hln : ds.length + 2 + i = t.length := by
            have := congrArg List.length hrest
            simp at this
            omega
          have hxp : ∀ W : World, (Instr.index 9 (.string ⟨t.toArray⟩) (.int .i64 (i : Int))).run Tryd.prog W = .ok (.int .u8 (p.toNat : Int)) W := fun W => str_index t i p ((show ∀ j c, (t.drop i)[j]? = some c → t[i + j]? = some c from hget) 0 p (by rw [hrest]; rfl)) W
          have hxx : ∀ W : World, (Instr.index 9 (.string ⟨t.toArray⟩) (.int .i64 ((i : Int) + 1))).run Tryd.prog W = .ok (.int .u8 (x.toNat : Int)) W := fun W => str_index t (i + 1) x ((show ∀ j c, (t.drop i)[j]? = some c → t[i + j]? = some c from hget) 1 x (by rw [hrest]; rfl)) W
          have hxd : Hidden (∀ (j : Nat) (c : UInt8), ds[j]? = some c → ∀ W : World, (Instr.index 9 (.string ⟨t.toArray⟩) (.int .i64 ((i : Int) + 2 + (j : Int)))).run Tryd.prog W = .ok (.int .u8 (c.toNat : Int)) W) := by
            intro j c h W
            have := str_index t (i + (j + 2)) c ((show ∀ j c, (t.drop i)[j]? = some c → t[i + j]? = some c from hget) (j + 2) c (by rw [hrest]; simpa using h)) W
            rw [show ((i + (j + 2) : Nat) : Int) = (i : Int) + 2 + (j : Int) by omega] at this
            exact this
          have hfm : Hidden (∀ F E, Form t F E → F = m ∧ p = 112 ∧ foldDec ds 0 = some E.natAbs ∧ ((x = 45 ∧ E < 0) ∨ (x = 43 ∧ 0 ≤ E))) := by
            intro F E h
            obtain ⟨a1, x', ds', e, e1, e2, e3, e4⟩ := form_at h hfrH
            rw [hrest] at e
            cases e
            exact ⟨a1, rfl, e3, e4⟩
          clear hrest hget hfrH
          by_cases d3 : p = 112
          · subst d3
            go_wp2
            go_loopg [7, 8] ds.length (fun k ev kv wr => ∃ j acc : Nat, ev = .int .i64 (acc : Int) ∧ kv = .int .i64 ((i : Int) + 2 + (j : Int)) ∧ j ≤ ds.length ∧ acc < 10 ^ j ∧ foldDec (ds.drop j) acc = foldDec ds 0 ∧ k = ds.length - j ∧ wr = wc)
            case atStart => exact ⟨0, 0, rfl, by go_num, by omega, by simp, rfl, rfl, rfl⟩
            case round =>
              obtain ⟨j, acc, rfl, rfl, hj, hacc, hf, hgk, rfl⟩ := hrel
              have hgkH : Hidden (gk = ds.length - j) := hgk
              have hp : acc < 10000 := by
                have := Nat.pow_le_pow_right (show 0 < 10 by decide) (show j ≤ 4 by omega)
                omega
              by_cases hjl : j < ds.length
              · obtain ⟨c, hc⟩ : ∃ c, ds[j]? = some c := ⟨ds[j], List.getElem?_eq_getElem hjl⟩
                have hdr : ds.drop j = c :: ds.drop (j + 1) := by
                  have := List.drop_eq_getElem_cons hjl
                  rw [List.getElem?_eq_getElem hjl] at hc
                  cases hc
                  exact this
                rw [hdr, foldDec] at hf
                have hx := (show ∀ (j : Nat) (c : UInt8), ds[j]? = some c → ∀ W : World, _ from hxd) j c hc
                have kd := digit_any c
                clear hdr hc hxd hgk
                rcases hix_isd c with ⟨k1, k2⟩ | ⟨k1, k2⟩
                · rw [if_pos k1] at hf
                  have hcb : 48 ≤ c.toNat ∧ c.toNat ≤ 57 := by simpa [isd] using k1
                  obtain ⟨D, hD⟩ : ∃ D, c.toNat = D + 48 := ⟨c.toNat - 48, by omega⟩
                  rw [hD] at hf
                  rw [Nat.add_sub_cancel] at hf
                  have hDi : hix c = (D : Int) := by omega
                  rw [hDi] at kd
                  have hD9 : D ≤ 9 := by omega
                  have hp2 : Hidden (acc * 10 + D < 10 ^ (j + 1)) := by show _ < _; rw [Nat.pow_succ]; omega
                  have hfH : Hidden (foldDec (List.drop (j + 1) ds) (acc * 10 + D) = foldDec ds 0) := hf
                  clear hf hacc hcb hD hDi k1 k2
                  go_wp2_with (go_at_call 62; refine (kd _).mono ?_; rintro e w' ⟨rfl, rfl⟩)
                  go_roundg (ds.length - (j + 1))
                  case measure =>
                    have : gk = ds.length - j := hgkH
                    omega
                  case rel => exact ⟨j + 1, acc * 10 + D, by go_num, by go_num, by omega, hp2, hfH, rfl, rfl⟩
                · rw [k1] at hf
                  simp only [Bool.false_eq_true, if_false] at hf
                  have hfH : Hidden (none = foldDec ds 0) := hf
                  clear hf k1 hacc
                  rcases k2 with k2 | k2
                  all_goals
                    generalize hix c = D at *
                    go_wp2_with (go_at_call 62; refine (kd _).mono ?_; rintro e w' ⟨rfl, rfl⟩)
                    go_ret
                    exact ⟨_, rfl, (show _ → _ from g0) fun F E h => by
                      obtain ⟨_, _, e3, _⟩ := (show ∀ F E, Form t F E → _ from hfm) F E h
                      rw [← show none = foldDec ds 0 from hfH] at e3
                      exact absurd e3 (by simp), rfl⟩
              · obtain rfl : j = ds.length := by omega
                rw [List.drop_length, foldDec] at hf
                have hfH : Hidden (some acc = foldDec ds 0) := hf
                clear hf hacc hgk hxd
                have hfe : Hidden (∀ F E, Form t F E → F = m ∧ E = eV x acc) := by
                  intro F E h
                  obtain ⟨a1, _, a3, a4⟩ := (show ∀ F E, Form t F E → _ from hfm) F E h
                  rw [← show some acc = foldDec ds 0 from hfH] at a3
                  have a5 : acc = E.natAbs := Option.some.inj a3
                  refine ⟨a1, ?_⟩
                  unfold eV
                  rcases a4 with ⟨b1, b2⟩ | ⟨b1, b2⟩
                  · rw [if_pos b1]; omega
                  · rw [if_neg (by rw [b1]; decide)]; omega
                have heb : -10000 < eV x acc ∧ eV x acc < 10000 := by
                  unfold eV
                  split <;> omega
                clear hfm hfH
                go_upto_if 126 with fail
                go_cut [7] (fun ev wx => ev = .int .i64 (eV x acc) ∧ wx = wr)
                case first =>
                  by_cases d4 : x = 45
                  · have hE : Hidden (-(acc : Int) = eV x acc) := by unfold eV; rw [if_pos d4]; rfl
                    subst d4
                    go_wp2
                    go_meet
                    exact ⟨congrArg (Value.int .i64) hE, rfl⟩
                  · have hE : Hidden ((acc : Int) = eV x acc) := by unfold eV; rw [if_neg d4]; rfl
                    have d4' : ((x.toNat : Int) == 45) = false := by
                      simp only [beq_eq_false_iff_ne, ne_eq]
                      intro h
                      exact d4 (UInt8.toNat_inj.1 (show x.toNat = 45 by omega))
                    go_wp2
                    go_meet
                    exact ⟨congrArg (Value.int .i64) hE, rfl⟩
                case rest =>
                  obtain ⟨rfl, rfl⟩ := hcut
                  generalize eV x acc = e at *
                  clear hxx hxp hsh
                  by_cases d5 : 1023 < e
                  · go_wp2
                    go_ret
                    exact ⟨_, rfl, (show _ → _ from g0) fun F E h => by
                      have a1 := ((show ∀ F E, Form t F E → _ from hfe) F E h).2
                      have a2 := h.h1
                      omega, rfl⟩
                  by_cases d6 : e < -1074
                  · go_wp2
                    go_ret
                    exact ⟨_, rfl, (show _ → _ from g0) fun F E h => by
                      have a1 := ((show ∀ F E, Form t F E → _ from hfe) F E h).2
                      have a2 := h.h0
                      omega, rfl⟩
                  have hju := join_U m e hm2 (by omega) (by omega)
                  have hgood : Hidden (Good s (signV n + joinS m e)) := (show ∀ v, U v → _ from gv) _ (by
                    unfold signV
                    split <;> exact ⟨by omega, by omega⟩) c3H (fun F E h => by
                    obtain ⟨a1, a2⟩ := (show ∀ F E, Form t F E → _ from hfe) F E h
                    rw [a1, a2])
                  by_cases d7 : -1022 ≤ e
                  · obtain ⟨o1, o2, o3⟩ := or_three n e m d7 (by omega) hm2
                    generalize (joinS m e : Nat) = J at *
                    go_wp2
                    go_ret
                    exact ⟨_, rfl, hgood, rfl⟩
                  · obtain ⟨k, hk⟩ := Int.eq_ofNat_of_zero_le (show 0 ≤ -1022 - e by omega)
                    have hor := or_hidn m hm2
                    have hJ : joinS m e = (4503599627370496 + m) / 2 ^ k := by
                      unfold joinS
                      rw [if_pos (by omega), hk]
                      rfl
                    have hsub : Hidden (∀ F E, Form t F E → (4503599627370496 + m) % 2 ^ k = 0) := by
                      intro F E h
                      obtain ⟨a1, a2⟩ := (show ∀ F E, Form t F E → _ from hfe) F E h
                      have a3 := h.sub (by omega)
                      rw [a1, a2, hk] at a3
                      exact a3
                    have hlost := lost_bits (4503599627370496 + m) k (by omega) (by omega)
                    have hz : 4503599627370496 + m < 9007199254740992 := by omega
                    have h64 : (64 - (k : Int)).toNat = 64 - k := by omega
                    have hJi : ((4503599627370496 + m : Nat) : Int) / 2 ^ k = ((joinS m e : Nat) : Int) := by
                      rw [hJ, Int.natCast_ediv, Int.natCast_pow]
                      rfl
                    have ho2 := or_sign n (joinS m e : Nat) (by omega) (by omega)
                    generalize (joinS m e : Nat) = J at *
                    generalize 4503599627370496 + m = z at *
                    clear hJ
                    by_cases d8 : z % 2 ^ k = 0
                    · rw [decide_eq_true d8] at hlost
                      have hlost2 : (IntKind.u64.wrap ((z : Int) * 2 ^ (64 - k)) != 0) = false := by rw [bne, hlost]; rfl
                      clear d8 hsub
                      go_wp2
                      go_ret
                      exact ⟨_, rfl, hgood, rfl⟩
                    · rw [decide_eq_false d8] at hlost
                      have hlost2 : (IntKind.u64.wrap ((z : Int) * 2 ^ (64 - k)) != 0) = true := by rw [bne, hlost]; rfl
                      have d8H : Hidden (¬ z % 2 ^ k = 0) := d8
                      clear d8
                      go_wp2
                      go_ret
                      exact ⟨_, rfl, (show _ → _ from g0) fun F E h => d8H ((show ∀ F E, Form t F E → _ from hsub) F E h), rfl⟩
          · have d3' : ((p.toNat : Int) == 112) = false := by
              simp only [beq_eq_false_iff_ne, ne_eq]
              intro h
              exact d3 (UInt8.toNat_inj.1 (show p.toNat = 112 by omega))
            have d3n : ((p.toNat : Int) != 112) = true := by rw [bne, d3']; rfl
            have d3H : Hidden (¬ p = 112) := d3
            clear d3
            go_wp2
            go_ret
            exact ⟨_, rfl, (show _ → _ from g0) fun F E h => d3H ((show ∀ F E, Form t F E → _ from hfm) F E h).2.1, rfl⟩
      · have c3b : (((⟨t.toArray⟩ : ByteArray).extract 0 3).toList == [48, 120, 49]) = false := by
          have e : (⟨t.toArray⟩ : ByteArray).extract 0 3 = ⟨(t.take 3).toArray⟩ := by
            apply ByteArray.ext
            apply Array.ext'
            rw [Lib.extract_data]
            simp
          rw [e]
          simpa using c3
        have c3H : Hidden (¬ t.take 3 = [48, 120, 49]) := c3
        clear c3 hsl3
        go_wp2
        go_ret
        exact ⟨_, rfl, (show _ → _ from g0) fun F E h => c3H (form_head h), rfl⟩
end Go.Proofs.YtfegnjpajflnkaaDoor
