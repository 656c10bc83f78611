/- New. -/
import Derived.Test.YtajefmmggefbeaaDgI
namespace Go.Proofs.Ytajefmmggefbeaa.Dg
open Go.RowKit Go.Sort
set_option linter.unusedSimpArgs false
set_option linter.unusedVariables false

abbrev Nd := Str × List Str
/-- A list of nodes that can be read at v. -/
def NL (w : World) (v : Value) (nl : List Nd) : Prop :=
  ∃ ao cap, v = .slice ao nl.length cap ∧ nl.length ≤ cap ∧ cap ≤ 9223372036854775807 ∧
    (nl = [] ∨ ∃ b off, ao = some ⟨b, off, none⟩ ∧ ∀ (i : Nat) (n : Nd), nl[i]? = some n → ∃ x, w.cell? ⟨b, off + i * 2, none⟩ = some (ct n.1) ∧ w.cell? ⟨b, off + i * 2 + 1, none⟩ = some x ∧ Tl w x n.2)
theorem NL.later {w w' : World} {v : Value} {nl : List Nd} (h : NL w v nl) (hf : Fr (fun _ => False) w w') : NL w' v nl := by
  obtain ⟨ao, cap, rfl, h1, h2, h3⟩ := h
  refine ⟨ao, cap, rfl, h1, h2, ?_⟩
  rcases h3 with h3 | ⟨b, off, rfl, hc⟩
  · exact Or.inl h3
  · refine Or.inr ⟨b, off, rfl, fun i n hn => ?_⟩
    obtain ⟨x, c1, c2, c3⟩ := hc i n hn
    exact ⟨x, hf.cellN c1, hf.cellN c2, c3.later hf⟩
theorem NL.at {w : World} {ao : Option Addr} {k cap : Nat} {nl : List Nd} (h : NL w (.slice ao k cap) nl) {j : Nat} {n : Nd} (hn : nl[j]? = some n) : ∃ b off aoi capi, ao = some ⟨b, off, none⟩ ∧ w.cell? ⟨b, off + j * 2, none⟩ = some (ct n.1) ∧ w.cell? ⟨b, off + j * 2 + 1, none⟩ = some (.slice aoi n.2.length capi) ∧ Tl w (.slice aoi n.2.length capi) n.2 := by
  obtain ⟨ao', cap', e, h1, h2, h3⟩ := h
  cases e
  rcases h3 with rfl | ⟨b, off, rfl, hc⟩
  · simp at hn
  · obtain ⟨x, c1, c2, c3⟩ := hc j n hn
    obtain ⟨aoi, capi, rfl, _⟩ := id c3
    exact ⟨b, off, aoi, capi, rfl, c1, c2, c3⟩
/-- Its elements as values. -/
theorem NL.vals {w : World} {ao : Option Addr} {k cap : Nat} {nl : List Nd} (h : NL w (.slice ao k cap) nl) : ∃ xs : List (Str × Value), xs.length = nl.length ∧ k = xs.length ∧ k ≤ cap ∧ cap ≤ 9223372036854775807 ∧ (xs = [] ∨ ∃ b off, ao = some ⟨b, off, none⟩ ∧ ∀ (i : Nat) (x : Str × Value), xs[i]? = some x → w.cell? ⟨b, off + i * 2, none⟩ = some (encStr x.1) ∧ w.cell? ⟨b, off + i * 2 + 1, none⟩ = some x.2) ∧
    ∀ (i : Nat) (x : Str × Value) (n : Nd), xs[i]? = some x → nl[i]? = some n → x.1 = n.1 ∧ Tl w x.2 n.2 := by
  obtain ⟨ao', cap', e, h1, h2, h3⟩ := h
  cases e
  rcases h3 with rfl | ⟨b, off, rfl, hc⟩
  · exact ⟨[], rfl, rfl, h1, h2, Or.inl rfl, fun i x n hx => by simp at hx⟩
  · have hx : ∃ xs : List (Str × Value), xs.length = nl.length ∧ ∀ (i : Nat) (n : Nd), nl[i]? = some n → ∃ x : Value, xs[i]? = some (n.1, x) ∧ w.cell? ⟨b, off + i * 2, none⟩ = some (ct n.1) ∧ w.cell? ⟨b, off + i * 2 + 1, none⟩ = some x ∧ Tl w x n.2 := by
      clear h1 h2
      have key : ∀ (nl : List Nd) (s : Nat), (∀ (i : Nat) (n : Nd), nl[i]? = some n → ∃ x, w.cell? ⟨b, off + (s + i) * 2, none⟩ = some (ct n.1) ∧ w.cell? ⟨b, off + (s + i) * 2 + 1, none⟩ = some x ∧ Tl w x n.2) →
          ∃ xs : List (Str × Value), xs.length = nl.length ∧ ∀ (i : Nat) (n : Nd), nl[i]? = some n → ∃ x : Value, xs[i]? = some (n.1, x) ∧ w.cell? ⟨b, off + (s + i) * 2, none⟩ = some (ct n.1) ∧ w.cell? ⟨b, off + (s + i) * 2 + 1, none⟩ = some x ∧ Tl w x n.2 := by
        intro nl
        induction nl with
        | nil => intro s _; exact ⟨[], rfl, fun i n h => by simp at h⟩
        | cons m r ih =>
          intro s hc
          obtain ⟨x, c1, c2, c3⟩ := hc 0 m rfl
          obtain ⟨xs, k1, k2⟩ := ih (s + 1) (fun i n hn => by
            have := hc (i + 1) n (by simpa using hn)
            rw [show s + (i + 1) = s + 1 + i by omega] at this
            exact this)
          refine ⟨(m.1, x) :: xs, by simp [k1], fun i n hn => ?_⟩
          cases i with
          | zero => simp at hn; subst hn; exact ⟨x, rfl, c1, c2, c3⟩
          | succ i =>
            obtain ⟨y, q1, q2⟩ := k2 i n (by simpa using hn)
            refine ⟨y, by simpa using q1, ?_⟩
            rw [show s + (i + 1) = s + 1 + i by omega]
            exact q2
      have := key nl 0 (fun i n hn => by simpa using hc i n hn)
      simpa using this
    obtain ⟨xs, k1, k2⟩ := hx
    refine ⟨xs, k1, k1.symm, h1, h2, Or.inr ⟨b, off, rfl, fun i x hx => ?_⟩, fun i x n hx hn => ?_⟩
    · obtain ⟨n, hn⟩ : ∃ n, nl[i]? = some n := ⟨nl[i]'(by have := (List.getElem?_eq_some_iff.1 hx).1; omega), List.getElem?_eq_getElem _⟩
      obtain ⟨y, q1, q2, q3, q4⟩ := k2 i n hn
      rw [hx] at q1
      obtain rfl := Option.some.inj q1
      exact ⟨q2, q3⟩
    · obtain ⟨y, q1, q2, q3, q4⟩ := k2 i n hn
      rw [hx] at q1
      obtain rfl := Option.some.inj q1
      exact ⟨rfl, q4⟩
theorem any_map {α β : Type} (p : α → Bool) (q : β → Bool) : ∀ (l : List α) (m : List β), l.length = m.length → (∀ (k : Nat) (x : α) (y : β), l[k]? = some x → m[k]? = some y → p x = q y) → l.any p = m.any q
  | [], [], _, _ => rfl
  | [], _ :: _, h, _ => by simp at h
  | _ :: _, [], h, _ => by simp at h
  | x :: l, y :: m, h, hk => by
    rw [List.any_cons, List.any_cons, hk 0 x y rfl rfl, any_map p q l m (by simpa using h) (fun k a b ha hb => hk (k + 1) a b (by simpa using ha) (by simpa using hb))]

/-- What is wrong with nodes. -/
def bigS (nl : List Nd) : Bool := decide (32 < nl.length) || nl.any fun n => decide (16 < n.2.length)
def badN (s : Str) : Bool := rightS s != 0
def badS (nl : List Nd) : Bool := nl.any fun n => badN n.1 || n.2.any badN
def newE (nl : List Nd) : Int := if bigS nl = true then 3 else if badS nl = true then 12 else if (nl.map (·.1)).Nodup then 0 else 20
/-- The graph of nodes. -/
def gOf (nl : List Nd) : Gr := ⟨setS (nl.map (·.1)), fun s => match nl.find? (fun n => decide (n.1 = s)) with
  | some n => setS n.2
  | none => []⟩
def vlen : Value → Nat
  | .slice _ n _ => n
  | _ => 0
theorem crowded_any (s : Str) (ao : Option Addr) (n cap : Nat) (w : World) : Calls Try.prog 55 #[.agg #[ct s, .slice ao n cap]] w fun e w' => e = .returned (.bool (decide (16 < n))) ∧ Fr (fun _ => False) w w' := by
  go_enter Try.func55, Try.ntmps55
  go_wp2
  go_ret
  refine ⟨?_, Fr.alloc _ _ _⟩
  congr 2
  simp
  omega
theorem noname_any (s : Str) (w : World) (h : OkN s) : Calls Try.prog 71 #[ct s] w fun e w' => e = .returned (.bool (badN s)) ∧ Fr (fun _ => False) w w' := by
  obtain ⟨r, hr⟩ : ∃ r, rightS s = r := ⟨_, rfl⟩
  have k := right_any s r hr h w
  unfold badN
  rw [hr]
  clear hr h
  go_enter Try.func71, Try.ntmps71
  go_wp2_with (go_at_call 81; refine k.mono ?_; rintro e w1 ⟨rfl, rfl⟩)
  go_ret
  exact ⟨rfl, Fr.refl _ _⟩
set_option maxRecDepth 20000 in
set_option maxHeartbeats 1000000 in
theorem misnamed_any (s : Str) (ao : Option Addr) (cap : Nat) (l : List Str) (w : World) (hs : OkN s) (hl : Tl w (.slice ao l.length cap) l) (hok : ∀ x ∈ l, OkN x) :
    Calls Try.prog 56 #[.agg #[ct s, .slice ao l.length cap]] w fun e w' => e = .returned (.bool (badN s || l.any badN)) ∧ Fr (fun _ => False) w w' := by
  have fa := Fr.alloc (fun _ => False) w (.cells #[ct s, .slice ao l.length cap] 50)
  have kn := noname_any s (w.alloc (.cells #[ct s, .slice ao l.length cap] 50)) hs
  obtain ⟨r1, h1⟩ : ∃ r, badN s = r := ⟨_, rfl⟩
  obtain ⟨r2, h2⟩ : ∃ r, l.any badN = r := ⟨_, rfl⟩
  have kc : ∀ W, Fr (fun _ => False) w W → Calls Try.prog 40 #[.slice ao l.length cap, .func (.func 71) #[] #[]] W fun e w' => e = .returned (.bool r2) ∧ Fr (fun _ => False) W w' := fun W hW => by
    obtain ⟨ao', cap', e, t1, t2, t3, t4⟩ := hl.later hW
    cases e
    refine cfuncSA 71 #[] (enters_of Try.func71 (by kernel_rfl) rfl) ao _ cap l badN r2 W rfl t1 t2 t4 ?_ h2
    intro W' hW' y hy
    exact noname_any y W' (hok y hy)
  have cells : ∀ W, Fr (fun _ => False) (w.alloc (.cells #[ct s, .slice ao l.length cap] 50)) W → W.cell? ⟨w.heap.size, 1, none⟩ = some (.slice ao l.length cap) := fun W hW => hW.cellN (by rw [cell_of_row _ _ _ _ _ _ (alloc_new w _)]; rfl)
  have faH : Hidden (Fr (fun _ => False) w (w.alloc (.cells #[ct s, .slice ao l.length cap] 50))) := fa
  rw [h1] at kn
  rw [h1, h2]
  clear h1 h2 hs hl hok fa
  generalize l.length = n at *
  cases r1
  · go_enter Try.func56, Try.ntmps56
    go_wp2_with (first
      | (go_at_call 71; refine kn.mono ?_; rintro e w1 ⟨rfl, f1⟩; have c1 := cells w1 f1; have f1H : Hidden (Fr (fun _ => False) w w1) := Fr.same faH f1; have kc1 := kc w1 f1H; clear f1)
      | (go_at_call 40; refine kc1.mono ?_; rintro e w2 ⟨rfl, f2⟩; have f2H : Hidden (Fr (fun _ => False) w1 w2) := f2; clear f2))
    go_ret
    exact ⟨by simp, Fr.same f1H f2H⟩
  · go_enter Try.func56, Try.ntmps56
    go_wp2_with (go_at_call 71; refine kn.mono ?_; rintro e w1 ⟨rfl, f1⟩; have f1H : Hidden (Fr (fun _ => False) w w1) := Fr.same faH f1; clear f1)
    go_ret
    exact ⟨by simp, f1H⟩
theorem anyCrowded (ao : Option Addr) (cap : Nat) (nl : List Nd) (w : World) (h : NL w (.slice ao nl.length cap) nl) (r : Bool) (hr : (nl.any fun n => decide (16 < n.2.length)) = r) :
    Calls Try.prog 54 #[.slice ao nl.length cap, .func (.func 55) #[] #[]] w fun e w' => e = .returned (.bool r) ∧ Fr (fun _ => False) w w' := by
  obtain ⟨xs, h1, h2, h3, h4, h5, h6⟩ := h.vals
  refine cfuncNA 55 #[] (enters_of Try.func55 (by kernel_rfl) rfl) ao _ cap xs (fun x => decide (16 < vlen x.2)) r w h2.symm h3 h4 h5 ?_ ?_
  · intro W hW x hx
    obtain ⟨i, hi⟩ := List.getElem?_of_mem hx
    obtain ⟨n, hn⟩ : ∃ n, nl[i]? = some n := ⟨nl[i]'(by have := (List.getElem?_eq_some_iff.1 hi).1; omega), List.getElem?_eq_getElem _⟩
    obtain ⟨k1, ao', cap', k2, _⟩ := h6 i x n hi hn
    obtain ⟨s, v⟩ := x
    simp only at k2
    subst k2
    exact crowded_any s ao' n.2.length cap' W
  · show xs.any _ = r
    rw [← hr]
    refine any_map _ _ xs nl h1 fun k x n hx hn => ?_
    obtain ⟨k1, ao', cap', k2, _⟩ := h6 k x n hx hn
    obtain ⟨s, v⟩ := x
    simp only at k2
    subst k2
    rfl
theorem anyMisnamed (ao : Option Addr) (cap : Nat) (nl : List Nd) (w : World) (h : NL w (.slice ao nl.length cap) nl) (hok : ∀ n ∈ nl, OkN n.1 ∧ ∀ x ∈ n.2, OkN x) (r : Bool) (hr : badS nl = r) :
    Calls Try.prog 54 #[.slice ao nl.length cap, .func (.func 56) #[] #[]] w fun e w' => e = .returned (.bool r) ∧ Fr (fun _ => False) w w' := by
  obtain ⟨xs, h1, h2, h3, h4, h5, h6⟩ := h.vals
  have hd : ∀ (i : Nat) (x : Str × Value) (n : Nd), xs[i]? = some x → nl[i]? = some n → (@decide (∃ l, Tl w x.2 l ∧ (badN x.1 || l.any badN) = true) (Classical.propDecidable _)) = (badN n.1 || n.2.any badN) := by
    intro i x n hx hn
    obtain ⟨k1, k2⟩ := h6 i x n hx hn
    cases hc : (badN n.1 || n.2.any badN)
    · simp only [decide_eq_false_iff_not]
      rintro ⟨l', q1, q2⟩
      rw [Tl.unique q1 k2, k1, hc] at q2
      cases q2
    · simp only [decide_eq_true_eq]
      exact ⟨n.2, k2, by rw [k1]; exact hc⟩
  refine cfuncNA 56 #[] (enters_of Try.func56 (by kernel_rfl) rfl) ao _ cap xs (fun x => @decide (∃ l, Tl w x.2 l ∧ (badN x.1 || l.any badN) = true) (Classical.propDecidable _)) r w h2.symm h3 h4 h5 ?_ ?_
  · intro W hW x hx
    obtain ⟨i, hi⟩ := List.getElem?_of_mem hx
    obtain ⟨n, hn⟩ : ∃ n, nl[i]? = some n := ⟨nl[i]'(by have := (List.getElem?_eq_some_iff.1 hi).1; omega), List.getElem?_eq_getElem _⟩
    rw [hd i x n hi hn]
    obtain ⟨k1, k2⟩ := h6 i x n hi hn
    obtain ⟨ao', cap', k3, _⟩ := id k2
    obtain ⟨s, v⟩ := x
    simp only at k1 k2 k3
    subst k1 k3
    exact misnamed_any n.1 ao' cap' n.2 W (hok n (List.mem_of_getElem? hn)).1 (k2.later hW) (hok n (List.mem_of_getElem? hn)).2
  · show xs.any _ = r
    rw [← hr]
    exact any_map _ _ xs nl h1 fun k x n hx hn => hd k x n hx hn
end Go.Proofs.Ytajefmmggefbeaa.Dg
