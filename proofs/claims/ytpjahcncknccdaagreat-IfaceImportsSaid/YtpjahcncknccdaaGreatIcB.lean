/- names.Find; slices.IndexFunc by an interface's name; the interfaces of imports in plain words. -/
import Derived.Test.YtpjahcncknccdaaGreatIcA
import Derived.Test.YtpjahcncknccdaaGreatTyH2
namespace Go.Proofs.YtpjahcncknccdaaGreat.Fo.Ic
open Go.RowKit Te
set_option linter.unusedSimpArgs false
set_option linter.unusedVariables false

theorem dropAt {α : Type} {l : List α} {j : Nat} {x : α} (h : l[j]? = some x) : l.drop j = x :: l.drop (j + 1) := by
  obtain ⟨h1, h2⟩ := List.getElem?_eq_some_iff.1 h
  rw [List.drop_eq_getElem_cons h1, h2]
def idxT (s : Bs) : List Bs → Nat → Int
  | [], _ => -1
  | x :: r, i => if x = s then (i : Int) else idxT s r (i + 1)
theorem idxT_spec (s : Bs) : ∀ (l : List Bs) (i : Nat), (s ∉ l ∧ idxT s l i = -1) ∨ (s ∈ l ∧ ∃ k : Nat, idxT s l i = ((i + k : Nat) : Int) ∧ k < l.length)
  | [], i => Or.inl ⟨by simp, rfl⟩
  | x :: r, i => by
    unfold idxT
    by_cases h : x = s
    · rw [if_pos h]
      exact Or.inr ⟨by simp [h], 0, by simp, by simp⟩
    · rw [if_neg h]
      rcases idxT_spec s r (i + 1) with ⟨h1, h2⟩ | ⟨h1, k, h2, h3⟩
      · exact Or.inl ⟨by simp [h1, Ne.symm h], h2⟩
      · exact Or.inr ⟨by simp [h1], k + 1, by rw [h2]; congr 1; omega, by simp; omega⟩
set_option maxHeartbeats 400000 in
theorem index_walk (ao : Option Addr) (n cap : Nat) (l : List Bs) (s : Bs) (R : Int) (w : World) (hn : Hidden (l.length = n)) (h1 : n ≤ cap) (h2 : cap ≤ 9223372036854775807)
    (ha : Hidden (l = [] ∨ ∃ b off, ao = some ⟨b, off, none⟩ ∧ ∀ (i : Nat) (x : Bs), l[i]? = some x → w.cell? ⟨b, off + i, none⟩ = some (ct x))) (hR : Hidden (idxT s l 0 = R)) :
    Calls Tryz.prog 91 #[.slice ao n cap, .string ⟨s.toArray⟩] w fun e w' => e = .returned (.int .i64 R) ∧ w' = w := by
  go_enter Tryz.func91, Tryz.ntmps91
  go_wp2
  go_loopg [8] n (fun k iv wr => ∃ j : Nat, iv = .int .i64 (j : Int) ∧ j ≤ n ∧ k = n - j ∧ wr = w ∧ idxT s (l.drop j) j = R)
  case atStart => exact ⟨0, rfl, by omega, rfl, rfl, hR⟩
  case round =>
    obtain ⟨j, rfl, hj, hk, rfl, hf⟩ := hrel
    have hkH : Hidden (gk = n - j) := hk
    have hn' : l.length = n := hn
    clear hk hR
    by_cases hjl : j < n
    · obtain ⟨x, hx⟩ : ∃ x, l[j]? = some x := ⟨l[j], List.getElem?_eq_getElem (by omega)⟩
      rcases (show l = [] ∨ _ from ha) with h0 | ⟨b, o, rfl, hc⟩
      · rw [h0] at hx; simp at hx
      have c1 := hc j x hx
      rw [dropAt hx, idxT] at hf
      clear hc hn' hx
      by_cases hxs : x = s
      · subst hxs
        rw [if_pos rfl] at hf
        subst hf
        go_wp2
        go_ret
        exact ⟨rfl, rfl⟩
      · rw [if_neg hxs] at hf
        have hne : (s == x) = false := beq_eq_false_iff_ne.2 (Ne.symm hxs)
        have hfH : Hidden (idxT s (l.drop (j + 1)) (j + 1) = R) := hf
        clear hf hxs
        go_wp2
        go_roundg (n - (j + 1))
        case measure => have := (show gk = n - j from hkH); omega
        case rel => exact ⟨j + 1, by go_num, by omega, rfl, rfl, hfH⟩
    · obtain rfl : j = n := by omega
      rw [List.drop_eq_nil_of_le (by omega)] at hf
      obtain rfl : -1 = R := hf
      clear hn'
      go_wp2
      go_ret
      exact ⟨rfl, rfl⟩
set_option maxHeartbeats 400000 in
theorem find_any (ao : Option Addr) (n cap : Nat) (l : List Bs) (s : Bs) (w : World) (hn : Hidden (l.length = n)) (h1 : n ≤ cap) (h2 : cap ≤ 9223372036854775807)
    (ha : Hidden (l = [] ∨ ∃ b off, ao = some ⟨b, off, none⟩ ∧ ∀ (i : Nat) (x : Bs), l[i]? = some x → w.cell? ⟨b, off + i, none⟩ = some (ct x))) :
    Calls Tryz.prog 62 #[.slice ao n cap, .string ⟨s.toArray⟩] w fun e w' => e = .returned (.tuple #[ci ((idxT s l 0).toNat : Int), .bool (decide (s ∈ l))]) ∧ w' = w := by
  have ki := index_walk ao n cap l s _ w hn h1 h2 ha rfl
  rcases idxT_spec s l 0 with ⟨e1, e2⟩ | ⟨e1, k, e2, _⟩
  · rw [e2] at ki
    rw [decide_eq_false e1, e2]
    clear e1 e2 ha hn
    go_enter Tryz.func62, Tryz.ntmps62
    go_wp2_with (go_at_call 91; refine ki.mono ?_; rintro e w' ⟨rfl, rfl⟩)
    go_ret2
    exact ⟨rfl, rfl⟩
  · rw [Nat.zero_add] at e2
    rw [e2] at ki
    rw [decide_eq_true e1, e2]
    clear e1 e2 ha hn
    go_enter Tryz.func62, Tryz.ntmps62
    go_wp2_with (go_at_call 91; refine ki.mono ?_; rintro e w' ⟨rfl, rfl⟩)
    go_ret2
    refine ⟨?_, rfl⟩
    have : max (k : Int) 0 = k := by omega
    simp [this]
/-- The place of the first interface of a name. -/
def idxF (s : Bs) : List Ty.Fc → Nat → Int
  | [], _ => -1
  | f :: r, i => if f.name = s then (i : Int) else idxF s r (i + 1)
def givenS (l : List Ty.Fc) (s : Bs) : Option Ty.Fc := l.find? fun f => f.name == s
theorem idxF_spec (s : Bs) : ∀ (l : List Ty.Fc) (i : Nat), (givenS l s = none ∧ idxF s l i = -1) ∨ ∃ (k : Nat) (f : Ty.Fc), l[k]? = some f ∧ f.name = s ∧ idxF s l i = ((i + k : Nat) : Int) ∧ givenS l s = some f
  | [], i => Or.inl ⟨rfl, rfl⟩
  | x :: r, i => by
    unfold idxF givenS
    rw [List.find?_cons]
    by_cases h : x.name = s
    · rw [if_pos h]
      exact Or.inr ⟨0, x, rfl, h, by simp, by simp [h]⟩
    · rw [if_neg h, show (x.name == s) = false by simpa using h]
      rcases idxF_spec s r (i + 1) with ⟨h1, h2⟩ | ⟨k, f, h1, h2, h3, h4⟩
      · exact Or.inl ⟨h1, h2⟩
      · exact Or.inr ⟨k + 1, f, by simpa using h1, h2, by rw [h3]; congr 1; omega, h4⟩
set_option maxHeartbeats 400000 in
theorem named_is (n s : Bs) (v : Value) (G : Nat) (w : World) (hG : w.cell? ⟨G, 0, none⟩ = some (ct s)) :
    Calls Tryz.prog 64 #[.agg #[ct n, v], .pointer (some ⟨G, 0, none⟩)] w fun e w' => e = .returned (.bool (decide (n = s))) ∧ Fr FN w w' := by
  have f0 := Fr.alloc FN w (.cells #[ct n, v] 24)
  replace hG := f0.cellN hG
  have e : decide (n = s) = (n == s) := by by_cases h : n = s <;> simp [h]
  rw [e]
  go_enter Tryz.func64, Tryz.ntmps64
  go_wp2_with fail
  go_ret
  exact ⟨rfl, f0⟩
set_option maxHeartbeats 1000000 in
theorem ifunc_any (ao : Option Addr) (n cap : Nat) (l : List Ty.Fc) (s : Bs) (G : Nat) (R : Int) (w : World) (hn : Hidden (l.length = n)) (h1 : n ≤ cap) (h2 : cap ≤ 9223372036854775807)
    (ha : Hidden (l = [] ∨ ∃ b off, ao = some ⟨b, off, none⟩ ∧ ∀ (i : Nat) (x : Ty.Fc), l[i]? = some x → LayF w b (off + i * 2) x)) (hG : w.cell? ⟨G, 0, none⟩ = some (ct s)) (hR : Hidden (idxF s l 0 = R)) :
    Calls Tryz.prog 63 #[.slice ao n cap, .func (.func 64) #[] #[.pointer (some ⟨G, 0, none⟩)]] w fun e w' => e = .returned (.int .i64 R) ∧ Fr FN w w' := by
  have hGH : Hidden (w.cell? ⟨G, 0, none⟩ = some (ct s)) := hG
  clear hG
  go_enter Tryz.func63, Tryz.ntmps63
  go_wp2
  go_loopg [5, 8] n (fun k _ iv wr => ∃ j : Nat, iv = .int .i64 (j : Int) ∧ j ≤ n ∧ k = n - j ∧ Fr FN w wr ∧ idxF s (l.drop j) j = R)
  case atStart => exact ⟨0, rfl, by omega, rfl, Fr.refl _ _, hR⟩
  case round =>
    obtain ⟨j, rfl, hj, hk, hf, hd⟩ := hrel
    have hkH : Hidden (gk = n - j) := hk
    have hfH : Hidden (Fr FN w wr) := hf
    have hn' : l.length = n := hn
    clear hk hR
    by_cases hjl : j < n
    · obtain ⟨x, hx⟩ : ∃ x, l[j]? = some x := ⟨l[j], List.getElem?_eq_getElem (by omega)⟩
      obtain ⟨b, off, ai, ic, rfl, hit, c0, c1⟩ := FcL_at (show l = [] ∨ _ from ha) hx
      replace c0 := hf.cellN c0
      replace c1 := hf.cellN c1
      have kp := named_is x.name s (.slice ai x.items.length ic) G wr (hf.cellN hGH)
      have hltz : (j : Int) < (n : Int) := by omega
      rw [dropAt hx, idxF] at hd
      clear hn' hx hf hit
      by_cases hpx : x.name = s
      · rw [if_pos hpx] at hd
        subst hd
        rw [decide_eq_true hpx] at kp
        clear hpx
        go_wp2_with fail
        refine kp.mono ?_
        rintro e w1 ⟨rfl, f1⟩
        have f1H : Hidden (Fr FN wr w1) := f1
        clear f1
        go_wp2
        go_ret
        exact ⟨rfl, Fr.same hfH f1H⟩
      · rw [if_neg hpx] at hd
        rw [decide_eq_false hpx] at kp
        have hdH : Hidden (idxF s (l.drop (j + 1)) (j + 1) = R) := hd
        clear hd hpx
        go_wp2_with fail
        refine kp.mono ?_
        rintro e w1 ⟨rfl, f1⟩
        have f1H : Hidden (Fr FN wr w1) := f1
        clear f1
        go_wp2
        go_roundg (n - (j + 1))
        case measure => have := (show gk = n - j from hkH); omega
        case rel => exact ⟨j + 1, by go_num, by omega, rfl, Fr.same hfH f1H, hdH⟩
    · obtain rfl : j = n := by omega
      rw [List.drop_eq_nil_of_le (by omega)] at hd
      obtain rfl : -1 = R := hd
      clear hn'
      go_wp2
      go_ret
      exact ⟨rfl, hfH⟩
/-- The interfaces of imports, each once, in their order; none: one is not given, or is not right. -/
def impGo (l : List Ty.Fc) : List Bs → List Bs → List Ty.Fc → Option (List Ty.Fc)
  | [], _, acc => some acc
  | n :: r, done, acc => if n ∈ done then impGo l r (done ++ [n]) acc else match givenS l n with
    | none => none
    | some f => if Ty.rightF f ≠ 0 then none else impGo l r (done ++ [n]) (acc ++ [f])
def impS (l : List Ty.Fc) (imps : List Bs) : Option (List Ty.Fc) := impGo l imps [] []
end Go.Proofs.YtpjahcncknccdaaGreat.Fo.Ic
