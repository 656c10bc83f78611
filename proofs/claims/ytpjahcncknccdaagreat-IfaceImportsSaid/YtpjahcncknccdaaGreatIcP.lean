/- iface: plain: what an interface hangs on. -/
import Derived.Test.YtpjahcncknccdaaGreatIcG
import Derived.Test.YtpjahcncknccdaaGreatIcO
namespace Go.Proofs.YtpjahcncknccdaaGreat.Fo.Ic
open Go.RowKit Te
set_option linter.unusedSimpArgs false
set_option linter.unusedVariables false

def isCV (d : De) : Bool := d.kind == 1 || d.kind == 2
def conOf (d : De) (kn : List Con) : Con := ⟨[], d.name, (valAt d kn).1.1, (valAt d kn).1.2⟩
/-- Constants and variables alone. -/
def evGo (far : List Con) : List De → List Con → List Con → List Con × List Con × Bool
  | [], cs, vs => (cs, vs, true)
  | d :: r, cs, vs => if (valAt d (cs.reverse ++ far)).2 ≠ 0 then ([], [], false) else if d.kind = 2 then evGo far r cs (vs ++ [conOf d (cs.reverse ++ far)]) else evGo far r (cs ++ [conOf d (cs.reverse ++ far)]) vs
theorem dec_ev (far : List Con) : ∀ (l : List De) (i : Nat) (seen : List Bs) (cs vs : List Con), (decGo far l i seen cs vs).2.2.2 = 0 → (l.map (·.name)).Nodup ∧ (∀ d ∈ l, d.name ∉ seen) ∧ evGo far (l.filter isCV) cs vs = ((decGo far l i seen cs vs).1, (decGo far l i seen cs vs).2.1, true)
  | [], i, seen, cs, vs, h => ⟨by simp, by simp, rfl⟩
  | d :: r, i, seen, cs, vs, h => by
    have key : ∀ cs' vs', (decGo far r (i + 1) (d.name :: seen) cs' vs').2.2.2 = 0 → d.name ∉ seen → ((d :: r).map (·.name)).Nodup ∧ (∀ e ∈ d :: r, e.name ∉ seen) ∧ evGo far (r.filter isCV) cs' vs' = ((decGo far r (i + 1) (d.name :: seen) cs' vs').1, (decGo far r (i + 1) (d.name :: seen) cs' vs').2.1, true) := fun cs' vs' h h1 => by
      obtain ⟨a1, a2, a3⟩ := dec_ev far r (i + 1) (d.name :: seen) cs' vs' h
      refine ⟨?_, ?_, a3⟩
      · rw [List.map_cons, List.nodup_cons]
        refine ⟨fun hm => ?_, a1⟩
        obtain ⟨e, he, hn⟩ := List.mem_map.1 hm
        exact a2 e he (by rw [hn]; simp)
      · intro e he
        rcases List.mem_cons.1 he with rfl | he
        · exact h1
        · exact fun q => a2 e he (by simp [q])
    unfold decGo at h ⊢
    by_cases h1 : d.name ∈ seen
    · rw [if_pos h1] at h; cases h
    rw [if_neg h1] at h ⊢
    by_cases h2 : d.kind ≠ 1 ∧ d.kind ≠ 2
    · rw [if_pos h2] at h ⊢
      have e : (d :: r).filter isCV = r.filter isCV := by rw [List.filter_cons, if_neg (by simp [isCV, h2.1, h2.2])]
      rw [e]
      exact key _ _ h h1
    rw [if_neg h2] at h ⊢
    have hk : isCV d = true := by unfold isCV; simp; omega
    have e : (d :: r).filter isCV = d :: r.filter isCV := by rw [List.filter_cons, if_pos hk]
    rw [e]
    by_cases h3 : (valAt d (cs.reverse ++ far)).2 ≠ 0
    · rw [if_pos h3] at h; exact absurd h h3
    rw [if_neg h3] at h ⊢
    unfold evGo
    rw [if_neg h3]
    by_cases h4 : d.kind = 2
    · rw [if_pos h4] at h ⊢
      rw [if_pos h4]
      exact key _ _ h h1
    · rw [if_neg h4] at h ⊢
      rw [if_neg h4]
      exact key _ _ h h1
theorem ev_dec (far : List Con) : ∀ (l : List De) (i : Nat) (seen : List Bs) (cs vs : List Con), (l.map (·.name)).Nodup → (∀ d ∈ l, d.name ∉ seen) → (evGo far (l.filter isCV) cs vs).2.2 = true → decGo far l i seen cs vs = ((evGo far (l.filter isCV) cs vs).1, (evGo far (l.filter isCV) cs vs).2.1, 0, 0)
  | [], i, seen, cs, vs, _, _, _ => rfl
  | d :: r, i, seen, cs, vs, hn, hs, h => by
    rw [List.map_cons, List.nodup_cons] at hn
    have h1 : d.name ∉ seen := hs d (by simp)
    have hs' : ∀ e ∈ r, e.name ∉ d.name :: seen := fun e he q => by
      rcases List.mem_cons.1 q with q | q
      · exact hn.1 (by rw [← q]; exact List.mem_map_of_mem he)
      · exact hs e (by simp [he]) q
    unfold decGo
    rw [if_neg h1]
    by_cases h2 : d.kind ≠ 1 ∧ d.kind ≠ 2
    · rw [if_pos h2]
      have e : (d :: r).filter isCV = r.filter isCV := by rw [List.filter_cons, if_neg (by simp [isCV, h2.1, h2.2])]
      rw [e] at h ⊢
      exact ev_dec far r _ _ _ _ hn.2 hs' h
    rw [if_neg h2]
    have hk : isCV d = true := by unfold isCV; simp; omega
    have e : (d :: r).filter isCV = d :: r.filter isCV := by rw [List.filter_cons, if_pos hk]
    rw [e] at h ⊢
    unfold evGo at h ⊢
    by_cases h3 : (valAt d (cs.reverse ++ far)).2 ≠ 0
    · rw [if_pos h3] at h; cases h
    rw [if_neg h3] at h ⊢
    rw [if_neg h3]
    by_cases h4 : d.kind = 2
    · rw [if_pos h4] at h ⊢
      rw [if_pos h4]
      exact ev_dec far r _ _ _ _ hn.2 hs' h
    · rw [if_neg h4] at h ⊢
      rw [if_neg h4]
      exact ev_dec far r _ _ _ _ hn.2 hs' h
/-- Variables change no constant. -/
theorem ev_const (far : List Con) : ∀ (l : List De) (cs vs vs' : List Con), (∀ d ∈ l, d.kind = 1 ∨ d.kind = 2) → (evGo far l cs vs).2.2 = true → (evGo far (l.filter fun d => d.kind == 1) cs vs').2.2 = true ∧ (evGo far (l.filter fun d => d.kind == 1) cs vs').1 = (evGo far l cs vs).1
  | [], cs, vs, vs', _, _ => ⟨rfl, rfl⟩
  | d :: r, cs, vs, vs', hk, h => by
    unfold evGo at h
    by_cases h3 : (valAt d (cs.reverse ++ far)).2 ≠ 0
    · rw [if_pos h3] at h; cases h
    rw [if_neg h3] at h
    by_cases h4 : d.kind = 2
    · rw [if_pos h4] at h
      have e : (d :: r).filter (fun d => d.kind == 1) = r.filter (fun d => d.kind == 1) := by rw [List.filter_cons, if_neg (by simp [h4])]
      have e2 : evGo far (d :: r) cs vs = evGo far r cs (vs ++ [conOf d (cs.reverse ++ far)]) := by rw [evGo, if_neg h3, if_pos h4]
      rw [e, e2]
      exact ev_const far r cs _ vs' (fun x hx => hk x (by simp [hx])) h
    · rw [if_neg h4] at h
      have h1 : d.kind = 1 := by have := hk d (by simp); omega
      have e : (d :: r).filter (fun d => d.kind == 1) = d :: r.filter (fun d => d.kind == 1) := by rw [List.filter_cons, if_pos (by simp [h1])]
      have e2 : evGo far (d :: r) cs vs = evGo far r (cs ++ [conOf d (cs.reverse ++ far)]) vs := by rw [evGo, if_neg h3, if_neg h4]
      rw [e, e2, evGo, if_neg h3, if_neg h4]
      exact ev_const far r _ vs vs' (fun x hx => hk x (by simp [hx])) h
/-- A value without an error is right, and of the type that was told. -/
theorem valAt_ok {d : De} {kn : List Con} (h : (valAt d kn).2 = 0) : (valAt d kn).1.1 = d.type ∧ Ty.rightV (valAt d kn).1.1 (valAt d kn).1.2 = true := by
  unfold valAt at h ⊢
  split at h
  · rename_i hd k he
    split at h
    · rename_i h1; exact absurd h h1
    · rename_i h1
      split at h
      · cases h
      · rename_i h2
        rw [if_neg h1, if_neg h2]
        refine ⟨by simpa using h2, ?_⟩
        unfold evalS at h1 ⊢
        by_cases hx : errX rnS cnS hd k = 0
        · rw [if_pos hx] at h1 ⊢
          obtain ⟨v, hv⟩ := evX_C kn hd k hx (by simpa using h1)
          have := evX_R kn hd k hx v hv
          rw [hv]
          exact this
        · rw [if_neg hx] at h1
          exact absurd hx (by simpa using h1)
  · cases h
/-- Constants that are right, one for each declaration. -/
def Fits : List De → List Con → Prop
  | [], [] => True
  | d :: l, c :: cs => (c.t = d.type ∧ Ty.rightV c.t c.b = true) ∧ Fits l cs
  | _, _ => False
/-- Each constant is right. -/
theorem ev_right (far : List Con) : ∀ (l : List De) (cs vs : List Con), (∀ d ∈ l, d.kind = 1 ∨ d.kind = 2) → (evGo far l cs vs).2.2 = true → ∃ new, (evGo far l cs vs).1 = cs ++ new ∧ Fits (l.filter fun d => d.kind == 1) new
  | [], cs, vs, _, _ => ⟨[], by simp [evGo], trivial⟩
  | d :: r, cs, vs, hk, h => by
    unfold evGo at h ⊢
    by_cases h3 : (valAt d (cs.reverse ++ far)).2 ≠ 0
    · rw [if_pos h3] at h; cases h
    rw [if_neg h3] at h ⊢
    have hv := valAt_ok (d := d) (kn := cs.reverse ++ far) (by simpa using h3)
    by_cases h4 : d.kind = 2
    · rw [if_pos h4] at h ⊢
      have e : (d :: r).filter (fun d => d.kind == 1) = r.filter (fun d => d.kind == 1) := by rw [List.filter_cons, if_neg (by simp [h4])]
      rw [e]
      exact ev_right far r cs _ (fun x hx => hk x (by simp [hx])) h
    · rw [if_neg h4] at h ⊢
      have h1 : d.kind = 1 := by have := hk d (by simp); omega
      have e : (d :: r).filter (fun d => d.kind == 1) = d :: r.filter (fun d => d.kind == 1) := by rw [List.filter_cons, if_pos (by simp [h1])]
      obtain ⟨new, q1, q2⟩ := ev_right far r _ vs (fun x hx => hk x (by simp [hx])) h
      rw [e]
      exact ⟨conOf d (cs.reverse ++ far) :: new, by rw [q1]; simp, ⟨hv, q2⟩⟩
/-- Items in order are one list. -/
theorem sorted_one : ∀ (a b : List Ty.It), a.Perm b → (a.map (·.name)).Nodup → a.Pairwise (fun x y => ¬ y.name < x.name) → b.Pairwise (fun x y => ¬ y.name < x.name) → a = b
  | [], b, hp, _, _, _ => by simpa using hp.symm
  | x :: a, [], hp, _, _, _ => by simp at hp
  | x :: a, y :: b, hp, hn, ha, hb => by
    rw [List.map_cons, List.nodup_cons] at hn
    rw [List.pairwise_cons] at ha hb
    by_cases hxy : x = y
    · subst hxy
      rw [sorted_one a b (List.perm_cons x |>.1 hp) hn.2 ha.2 hb.2]
    · exfalso
      have h1 : y ∈ a := by
        have := hp.symm.subset (show y ∈ y :: b by simp)
        rcases List.mem_cons.1 this with q | q
        · exact absurd q.symm hxy
        · exact q
      have h2 : x ∈ b := by
        have := hp.subset (show x ∈ x :: a by simp)
        rcases List.mem_cons.1 this with q | q
        · exact absurd q hxy
        · exact q
      have q1 := ha.1 y h1
      have q2 := hb.1 x h2
      have : x.name = y.name := by
        rcases Std.lt_trichotomy x.name y.name with q | q | q
        · exact absurd q q2
        · exact q
        · exact absurd q q1
      exact hn.1 (by rw [this]; exact List.mem_map_of_mem h1)
theorem itemsS_names : ∀ (l : List De) (cs : List Con), (itemsS l cs).map (·.name) = (l.filter (·.ex)).map (·.name)
  | [], cs => rfl
  | d :: r, cs => by
    unfold itemsS
    rw [List.map_append, itemsS_names r, List.filter_cons]
    cases d.ex <;> simp [itOf]
theorem itemsS_nodup {l : List De} (cs : List Con) (h : (l.map (·.name)).Nodup) : ((itemsS l cs).map (·.name)).Nodup := by
  rw [itemsS_names]
  exact h.sublist (List.filter_sublist.map _)
theorem perm_names {a b : List Ty.It} (h : a.Perm b) (hb : (b.map (·.name)).Nodup) : (a.map (·.name)).Nodup := (h.map _).nodup_iff.2 hb
/-- Two interfaces that are drawn out of the same are one. -/
theorem isF_one {m m' : Mo} {l l' : List Ty.Fc} {f f' : Ty.Fc} (h : IsF m l f) (h' : IsF m' l' f') (hn : m.name = m'.name) (he : (exP m l).2 = 0 ↔ (exP m' l').2 = 0)
    (hs : ∀ g g', impS l m.imports = some g → impS l' m'.imports = some g' → (decS (farS g) m.decls).2.2.2 = 0 → (decS (farS g') m'.decls).2.2.2 = 0 → (itemsS m.decls (decS (farS g) m.decls).1).Perm (itemsS m'.decls (decS (farS g') m'.decls).1)) : f = f' := by
  rcases h with ⟨h1, h2⟩ | ⟨h1, h2, h3, g, h4, h5, h6, h7⟩
  · rcases h' with ⟨q1, q2⟩ | ⟨q1, _⟩
    · rw [h2, q2]
    · exact absurd (he.2 q1) h1
  · rcases h' with ⟨q1, q2⟩ | ⟨q1, q2, q3, g', q4, q5, q6, q7⟩
    · exact absurd (he.1 h1) q1
    · have hp := hs g g' h4 q4 h5 q5
      have hnd := (dec_ev (farS g) m.decls 0 [] [] [] h5).1
      have := sorted_one f.items f'.items ((h6.trans hp).trans q6.symm) (perm_names h6 (itemsS_nodup _ hnd)) h7 q7
      obtain ⟨n, i⟩ := f
      obtain ⟨n', i'⟩ := f'
      simp only at *
      rw [this, h2, q2, hn]
/-- Interfaces that are not imported, or stand behind one of the same name. -/
theorem impGo_more (l : List Ty.Fc) (x : Ty.Fc) : ∀ (imps done : List Bs) (acc : List Ty.Fc), (x.name ∈ imps → ∃ f ∈ l, f.name = x.name) → impGo (l ++ [x]) imps done acc = impGo l imps done acc
  | [], done, acc, _ => rfl
  | n :: r, done, acc, h => by
    have hr : x.name ∈ r → ∃ f ∈ l, f.name = x.name := fun q => h (by simp [q])
    unfold impGo
    split
    · exact impGo_more l x r _ _ hr
    · have hf : givenS (l ++ [x]) n = givenS l n := by
        unfold givenS
        rw [List.find?_append]
        by_cases hx : x.name = n
        · obtain ⟨f, hf, hfn⟩ := h (by simp [hx])
          have : (l.find? (fun f => f.name == n)).isSome := by
            rw [List.find?_isSome]
            exact ⟨f, hf, by simp [hfn, hx]⟩
          obtain ⟨y, hy⟩ := Option.isSome_iff_exists.1 this
          rw [hy]; rfl
        · have : [x].find? (fun f => f.name == n) = none := by simp [hx]
          rw [this]; simp
      rw [hf]
      split
      · rfl
      · split
        · rfl
        · exact impGo_more l x r _ _ hr
theorem impS_more {l : List Ty.Fc} {x : Ty.Fc} {imps : List Bs} (h : x.name ∈ imps → ∃ f ∈ l, f.name = x.name) : impS (l ++ [x]) imps = impS l imps := impGo_more l x imps _ _ h
theorem exP_more {m : Mo} {l : List Ty.Fc} {x : Ty.Fc} (h : x.name ∈ m.imports → ∃ f ∈ l, f.name = x.name) : exP m (l ++ [x]) = exP m l := by
  unfold exP
  rw [impS_more h]
theorem isF_more {m : Mo} {l : List Ty.Fc} {x f f' : Ty.Fc} (h : x.name ∈ m.imports → ∃ f ∈ l, f.name = x.name) (h1 : IsF m l f) (h2 : IsF m (l ++ [x]) f') : f = f' :=
  isF_one h1 h2 rfl (by rw [exP_more h]) (fun g g' q1 q2 _ _ => by
    rw [impS_more h, q1] at q2
    cases q2
    exact List.Perm.refl _)
end Go.Proofs.YtpjahcncknccdaaGreat.Fo.Ic
