/- What Text answers, for any bits. -/
import Derived.Test.YtfegnjpajflnkaaDoorFrac
import Derived.Test.YtfegnjpajflnkaaDoorShelf
import Derived.Lib.SmallJoins
namespace Go.Proofs.YtfegnjpajflnkaaDoor
open Go.RowKit Fl
set_option linter.unusedSimpArgs false
set_option linter.unusedVariables false

def Tab (w : World) : Prop := Lib.TabIs Tryd.prog w "internal/strconv.uint64pow10" .u64 Lib.pow10Tab

theorem kb_heap {w w' : World} (h : Kb w w') {g : Nat} {cs : Array Value} {t : TypeId} {fr : Nat × Nat} (hg : g < w.heap.size) (hc : w.heap[g]? = some (.cells cs t fr)) : ∃ t' fr', w'.heap[g]? = some (.cells cs t' fr') := by
  obtain ⟨⟨_, _, hk⟩, _⟩ := h
  have := hk g hg
  rw [hc] at this
  cases e2 : w'.heap[g]? with
  | none => rw [e2] at this; simp at this
  | some o' =>
    rw [e2] at this
    cases o' with
    | cells c' t' fr' =>
      simp only at this
      have e : c' = cs := by
        apply Array.ext_getElem?
        intro j
        exact this.2.2.2 j (fun h => h)
      exact ⟨t', fr', by rw [e]⟩
    | _ => simp at this

theorem tab_kb {w w' : World} (h : Tab w) (hk : Kb w w') : Tab w' := by
  unfold Tab Lib.TabIs World.var? at h ⊢
  cases hg : Tryd.prog.globalNamed "internal/strconv.uint64pow10" with
  | none => rw [hg] at h; cases h
  | some g =>
    rw [hg] at h
    simp only [Option.bind_some] at h ⊢
    have hlt : g < w.heap.size := by
      rcases Nat.lt_or_ge g w.heap.size with h' | h'
      · exact h'
      · rw [Array.getElem?_eq_none h'] at h; cases h
    cases e1 : w.heap[g]? with
    | none => rw [e1] at h; cases h
    | some o =>
      rw [e1] at h
      cases o with
      | cells cs t fr =>
        obtain ⟨t', fr', e2⟩ := kb_heap hk hlt e1
        rw [e2]
        exact h
      | _ => cases h

def expL (e : Int) : List UInt8 := if e < 0 then 45 :: Lib.decDigits e.natAbs else 43 :: Lib.decDigits e.toNat

theorem kb_grow (w : World) (k : Nat) (os : Array Obj) : Kb w (Sort.grow (w.drewN k) os) := by
  refine ⟨⟨rfl, rfl, fun i hi => ?_⟩, by simp [Sort.grow, World.drewN]⟩
  have e : (Sort.grow (w.drewN k) os).heap[i]? = w.heap[i]? := by
    show (w.heap ++ os)[i]? = _
    rw [Array.getElem?_append_left hi]
  rw [e]
  cases w.heap[i]? with
  | none => rfl
  | some o => cases o <;> simp

theorem exp_any (e : Int) (h0 : -1100 ≤ e) (h1 : e ≤ 1100) (w : World) (ht : Tab w) :
    Calls Tryd.prog 67 #[.int .i64 e] w fun r w' => r = .returned (.string ⟨(expL e).toArray⟩) ∧ Kb w w' := by
  have hi := Tryd.strconv_Itoa e (by omega) (by omega) w ht
  unfold Lib.itoa at hi
  unfold expL
  by_cases c : e < 0
  · rw [if_pos c] at hi ⊢
    go_enter Tryd.func67, Tryd.ntmps67
    go_wp2_with (go_at_call 76; refine hi.mono ?_; rintro e w' ⟨rfl, k, os, rfl⟩)
    go_ret
    exact ⟨rfl, kb_grow _ _ _⟩
  · rw [if_neg c] at hi ⊢
    have hl := decDigits_len e.toNat
    have hcat := fun W : World => run_string_add_lists (P := Tryd.prog) W [43] (Lib.decDigits e.toNat) (by simp) (by omega)
    generalize Lib.decDigits e.toNat = ds at *
    go_enter Tryd.func67, Tryd.ntmps67
    go_wp2_with (go_at_call 76; refine hi.mono ?_; rintro e w' ⟨rfl, k, os, rfl⟩)
    go_ret
    exact ⟨rfl, kb_grow _ _ _⟩

/-- How far a magnitude is moved so that its first digit stands at the 53rd place. -/
def shf (m : Nat) : Nat := 53 - Lib.bitLen m
def nrm (m : Nat) : Nat := m * 2 ^ shf m
theorem bitLenAux_spec (f : Nat) : ∀ x : Nat, x < 2 ^ f → x < 2 ^ Lib.bitLenAux f x ∧ (x ≠ 0 → 1 ≤ Lib.bitLenAux f x ∧ 2 ^ (Lib.bitLenAux f x - 1) ≤ x) := by
  induction f with
  | zero =>
    intro x hx
    have : x = 0 := by simpa using hx
    subst this
    simp [Lib.bitLenAux]
  | succ f ih =>
    intro x hx
    unfold Lib.bitLenAux
    by_cases c : x = 0
    · subst c; simp
    · rw [if_neg c]
      rw [Nat.pow_succ] at hx
      obtain ⟨h1, h2⟩ := ih (x / 2) (by omega)
      rw [Nat.add_comm 1, Nat.pow_succ]
      refine ⟨by omega, fun _ => ⟨by omega, ?_⟩⟩
      rw [Nat.add_sub_cancel]
      by_cases c2 : x / 2 = 0
      · have : Lib.bitLenAux f (x / 2) = 0 := by
          rw [c2]
          cases f <;> simp [Lib.bitLenAux]
        rw [this]
        simp
        omega
      · obtain ⟨h3, h4⟩ := h2 c2
        obtain ⟨k, hk⟩ : ∃ k, Lib.bitLenAux f (x / 2) = k + 1 := ⟨Lib.bitLenAux f (x / 2) - 1, by omega⟩
        rw [hk] at h4 ⊢
        rw [Nat.add_sub_cancel] at h4
        rw [Nat.pow_succ]
        omega
theorem nrm_bounds (m : Nat) (h0 : m ≠ 0) (h : m < 9007199254740992) : Lib.bitLen m ≤ 53 ∧ 1 ≤ Lib.bitLen m ∧ 4503599627370496 ≤ nrm m ∧ nrm m < 9007199254740992 := by
  obtain ⟨h1, h2⟩ := bitLenAux_spec 64 m (by omega)
  obtain ⟨h3, h4⟩ := h2 h0
  change m < 2 ^ Lib.bitLen m at h1
  change 1 ≤ Lib.bitLen m at h3
  change 2 ^ (Lib.bitLen m - 1) ≤ m at h4
  have h5 : Lib.bitLen m ≤ 53 := by
    apply Classical.byContradiction
    intro hc
    have : 2 ^ 53 ≤ 2 ^ (Lib.bitLen m - 1) := Nat.pow_le_pow_right (by decide) (by omega)
    omega
  refine ⟨h5, h3, ?_, ?_⟩
  · unfold nrm shf
    have e : (4503599627370496 : Nat) = 2 ^ (Lib.bitLen m - 1) * 2 ^ (53 - Lib.bitLen m) := by
      rw [← Nat.pow_add, show Lib.bitLen m - 1 + (53 - Lib.bitLen m) = 52 by omega]
    rw [e]
    exact Nat.mul_le_mul_right _ h4
  · unfold nrm shf
    have e : (9007199254740992 : Nat) = 2 ^ Lib.bitLen m * 2 ^ (53 - Lib.bitLen m) := by
      rw [← Nat.pow_add, show Lib.bitLen m + (53 - Lib.bitLen m) = 53 by omega]
    rw [e]
    exact Nat.mul_lt_mul_of_pos_right h1 (Nat.two_pow_pos _)
def sizeL (c : Int) (m : Nat) (e : Int) : List UInt8 :=
  if c = 1 then [110, 97, 110] else if c = 2 then [105, 110, 102] else if c = 3 then [48, 120, 48, 112, 43, 48]
  else [48, 120, 49] ++ fracL (nrm m % 4503599627370496) ++ [112] ++ expL (e - shf m + 52)

theorem fracText_any (f : Nat) (hf : f < 4503599627370496) (w : World) :
    Calls Tryd.prog 66 #[.int .u64 (f : Int)] w fun e w' => e = .returned (.string ⟨(fracL f).toArray⟩) ∧ Kb w w' := by
  unfold fracL
  by_cases c : f = 0
  · subst c
    exact frac_zero w
  · rw [if_neg c]
    exact frac_any f c hf w

theorem hexF_len (k f : Nat) : (hexF k f).length ≤ k := by
  induction k generalizing f with
  | zero => simp [hexF]
  | succ k ih =>
    rw [hexF]
    split
    · simp
    · have := ih (f % 281474976710656 * 16)
      simp
      omega
theorem fracL_len (f : Nat) : (fracL f).length ≤ 14 := by
  unfold fracL
  have := hexF_len 13 f
  split <;> simp
  omega
theorem expL_len (e : Int) (h0 : -1200 ≤ e) (h1 : e ≤ 1200) : (expL e).length ≤ 2000 := by
  unfold expL
  have h2 := decDigits_len e.natAbs
  have h3 := decDigits_len e.toNat
  split <;> simp <;> omega

theorem lead_is (x v : Int) (h : 64 - (Lib.bitLen x.toNat : Int) = v) (h0 : 0 ≤ x) (h1 : x < 9007199254740992) (w : World) :
    Calls Tryd.prog 65 #[.int .u64 x] w fun e w' => e = .returned (.int .i64 v) ∧ w = w' := by
  subst h
  refine (Tryd.bits_LeadingZeros64 x w h0 (by omega)).mono ?_
  rintro e w' ⟨rfl, rfl⟩
  exact ⟨rfl, rfl⟩

theorem size_great (c m e S : Int) (F : Nat) (fs es : List UInt8) (hc : c = 4 ∨ c = 5) (hm0 : 0 ≤ m) (hm : m < 9007199254740992) (he0 : -1074 ≤ e) (he1 : e ≤ 971) (hS0 : 0 ≤ S) (hS1 : S ≤ 52) (hl1 : 64 - (Lib.bitLen m.toNat : Int) = 11 + S)
    (hF : F < 4503599627370496) (hfr : bits .and .u64 (IntKind.u64.wrap (m * 2 ^ S.toNat)) 4503599627370495 = (F : Int)) (hfs : fracL F = fs) (hes : expL (e - S + 52) = es) (w : World) (ht : Tab w) :
    Calls Tryd.prog 50 #[.int .i64 c, .int .u64 m, .int .i64 e] w fun r w' => r = .returned (.string ⟨([48, 120, 49] ++ fs ++ [112] ++ es).toArray⟩) ∧ Kb w w' := by
  have hl2 : 64 - (Lib.bitLen (4503599627370496 : Int).toNat : Int) = 11 := by decide
  have hh0 : (0 : Int) ≤ 4503599627370496 := by omega
  have hh1 : (4503599627370496 : Int) < 9007199254740992 := by omega
  have h3 : 11 + S - 11 = S := by omega
  have hL1 := fracL_len F
  rw [hfs] at hL1
  have hL2 := expL_len (e - S + 52) (by omega) (by omega)
  rw [hes] at hL2
  have kf := fracText_any F hF
  rw [hfs] at kf
  have ke := exp_any (e - S + 52) (by omega) (by omega)
  rw [hes] at ke
  have hc1 := fun W : World => run_string_add_lists (P := Tryd.prog) W [48, 120, 49] fs (by simp) (by omega)
  have hc2 := fun W : World => run_string_add_lists (P := Tryd.prog) W ([48, 120, 49] ++ fs) [112] (by simp; omega) (by simp)
  have hc3 := fun W : World => run_string_add_lists (P := Tryd.prog) W ([48, 120, 49] ++ fs ++ [112]) es (by simp; omega) (by omega)
  generalize hX1 : ([48, 120, 49] : List UInt8) ++ fs = X1 at *
  generalize hX2 : X1 ++ ([112] : List UInt8) = X2 at *
  generalize hX3 : X2 ++ es = X3 at *
  clear hfs hes hL1 hL2 hX1 hX2 hX3
  rcases hc with rfl | rfl
  all_goals
    go_enter Tryd.func50, Tryd.ntmps50
    go_wp2_with (first
      | (go_at_call 65; refine (lead_is _ _ (by with_reducible assumption) (by with_reducible assumption) (by with_reducible assumption) _).mono ?_; rintro e w' ⟨rfl, rfl⟩)
      | (go_at_call 66; refine (kf _).mono ?_; rintro e w' ⟨rfl, g1⟩; have ht1 := tab_kb ht g1)
      | (go_at_call 67; refine (ke _ (by with_reducible assumption)).mono ?_; rintro e w' ⟨rfl, g2⟩))
    go_ret
    exact ⟨rfl, g1.trans g2⟩

theorem size_small (c m e : Int) (hc : c = 1 ∨ c = 2 ∨ c = 3) (w : World) :
    Calls Tryd.prog 50 #[.int .i64 c, .int .u64 m, .int .i64 e] w fun r w' => r = .returned (.string ⟨(sizeL c m.toNat e).toArray⟩) ∧ Kb w w' := by
  rcases hc with rfl | rfl | rfl
  all_goals
    go_enter Tryd.func50, Tryd.ntmps50
    go_wp2
    go_ret
    exact ⟨rfl, Kb.refl _⟩

theorem size_any (c m e : Int) (hc : c = 1 ∨ c = 2 ∨ c = 3 ∨ ((c = 4 ∨ c = 5) ∧ 0 < m ∧ m < 9007199254740992 ∧ -1074 ≤ e ∧ e ≤ 971)) (w : World) (ht : Tab w) :
    Calls Tryd.prog 50 #[.int .i64 c, .int .u64 m, .int .i64 e] w fun r w' => r = .returned (.string ⟨(sizeL c m.toNat e).toArray⟩) ∧ Kb w w' := by
  rcases hc with h | h | h | ⟨h, h1, h2, h3, h4⟩
  · exact size_small c m e (by omega) w
  · exact size_small c m e (by omega) w
  · exact size_small c m e (by omega) w
  · obtain ⟨b1, b2, b3, b4⟩ := nrm_bounds m.toNat (by omega) (by omega)
    have hs : ((shf m.toNat : Nat) : Int) = 53 - (Lib.bitLen m.toNat : Int) := by unfold shf; omega
    have hn : m * 2 ^ ((shf m.toNat : Nat) : Int).toNat = ((nrm m.toNat : Nat) : Int) := by
      unfold nrm
      rw [Int.toNat_natCast, Int.natCast_mul, Int.natCast_pow]
      congr 1
      omega
    have e1 : sizeL c m.toNat e = [48, 120, 49] ++ fracL (nrm m.toNat % 4503599627370496) ++ [112] ++ expL (e - shf m.toNat + 52) := by
      unfold sizeL
      rw [if_neg (by omega), if_neg (by omega), if_neg (by omega)]
    rw [e1]
    refine size_great c m e (shf m.toNat : Nat) (nrm m.toNat % 4503599627370496) _ _ h (by omega) h2 h3 h4 (by omega) (by omega) (by omega) (by omega) ?_ rfl rfl w ht
    rw [hn, IntKind.wrap_u64, and_frac _ ⟨by omega, by omega⟩]
    omega

theorem class_parts (a : Int) (ha : U a) : classS a = 1 ∨ classS a = 2 ∨ classS a = 3 ∨ ((classS a = 4 ∨ classS a = 5) ∧ 0 < partM a ∧ partM a < 9007199254740992 ∧ -1074 ≤ partE a ∧ partE a ≤ 971) := by
  obtain ⟨h0, h1⟩ := ha
  rcases class_cases a with e | e | e | e | e
  · omega
  · omega
  · omega
  · have e2 : partM a = a % 4503599627370496 := by simp [partM, e]
    have e3 : partE a = -1074 := by simp [partE, e]
    have : a % 9223372036854775808 < 4503599627370496 ∧ a % 9223372036854775808 ≠ 0 := by
      unfold classS at e
      revert e
      repeat' split
      all_goals omega
    omega
  · have e2 : partM a = a % 4503599627370496 + 4503599627370496 := by simp [partM, e]
    have e3 : partE a = a / 4503599627370496 % 2048 - 1075 := by simp [partE, e]
    have : a % 9223372036854775808 < 9218868437227405312 ∧ 4503599627370496 ≤ a % 9223372036854775808 := by
      unfold classS at e
      revert e
      repeat' split
      all_goals omega
    omega

/-- The one text of a float. -/
def textS (a : Int) : List UInt8 := (if partN a then [45] else []) ++ sizeL (classS a) (partM a).toNat (partE a)

theorem sizeL_len (c : Int) (m : Nat) (e : Int) (hm : m < 9007199254740992) (h0 : -1074 ≤ e) (h1 : e ≤ 971) : (sizeL c m e).length ≤ 3000 := by
  unfold sizeL
  have h2 := fracL_len (nrm m % 4503599627370496)
  have h4 : shf m ≤ 53 := by unfold shf; omega
  have h3 := expL_len (e - shf m + 52) (by omega) (by omega)
  repeat' split
  all_goals simp
  omega

theorem parts_bounds (a : Int) (ha : U a) : (partM a).toNat < 9007199254740992 ∧ -1074 ≤ partE a ∧ partE a ≤ 971 := by
  rcases class_parts a ha with e | e | e | ⟨_, h⟩
  · simp [partM, partE, e]
  · simp [partM, partE, e]
  · have e2 : partM a = a % 4503599627370496 := by simp [partM, e]
    have e3 : partE a = -1074 := by simp [partE, e]
    omega
  · omega

theorem text_any (a : Int) (ha : U a) (w : World) (ht : Tab w) :
    Calls Tryd.prog 21 #[.int .u64 a] w fun r w' => r = .returned (.string ⟨(textS a).toArray⟩) ∧ Kb w w' := by
  have k1 := parts_any a ha
  have k2 := class_any a ha
  have k3 := fun w ht => size_any (classS a) (partM a) (partE a) (class_parts a ha) w ht
  have k4 := signText_any (partN a)
  have hb := parts_bounds a ha
  have hL := sizeL_len (classS a) (partM a).toNat (partE a) hb.1 hb.2.1 hb.2.2
  have hsg : (if partN a = true then (⟨#[45]⟩ : ByteArray) else ⟨#[]⟩) = ⟨((if partN a then [45] else []) : List UInt8).toArray⟩ := by cases partN a <;> rfl
  rw [hsg] at k4
  have hc := fun W : World => run_string_add_lists (P := Tryd.prog) W (if partN a then [45] else []) (sizeL (classS a) (partM a).toNat (partE a)) (by cases partN a <;> simp) (by omega)
  unfold textS
  generalize ((if partN a then [45] else []) : List UInt8) = sg at *
  generalize sizeL (classS a) (partM a).toNat (partE a) = sz at *
  generalize sg ++ sz = tx at *
  generalize partN a = N at *
  generalize partM a = M at *
  generalize partE a = E at *
  generalize classS a = C at *
  go_enter Tryd.func21, Tryd.ntmps21
  go_wp2_with (first
    | (go_at_call 9; refine (k1 _).mono ?_; rintro e w' ⟨rfl, rfl⟩)
    | (go_at_call 49; refine (k4 _).mono ?_; rintro e w' ⟨rfl, rfl⟩)
    | (go_at_call 15; refine (k2 _).mono ?_; rintro e w' ⟨rfl, rfl⟩)
    | (go_at_call 50; refine (k3 _ ht).mono ?_; rintro e w' ⟨rfl, g⟩))
  go_ret
  exact ⟨rfl, g⟩
end Go.Proofs.YtfegnjpajflnkaaDoor
