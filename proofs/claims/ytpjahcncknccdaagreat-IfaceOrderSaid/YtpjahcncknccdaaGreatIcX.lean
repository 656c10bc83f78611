/- iface: plain: functions in another order. -/
import Derived.Test.YtpjahcncknccdaaGreatIcU
namespace Go.Proofs.YtpjahcncknccdaaGreat.Fo.Ic
open Go.RowKit Te
set_option linter.unusedSimpArgs false
set_option linter.unusedVariables false

def fnsD (l : List De) : List De := (l.filter fun d => d.kind == 3).reverse
def restD (l : List De) : List De := l.filter fun d => !(d.kind == 3)
def ordD (b : Bool) (l : List De) : List De := if b then restD l ++ fnsD l else fnsD l ++ restD l
def ordM (b : Bool) (m : Mo) : Mo := ⟨m.name, m.imports, ordD b m.decls⟩
theorem fnsD_snoc (l : List De) (d : De) : fnsD (l ++ [d]) = if d.kind = 3 then d :: fnsD l else fnsD l := by
  unfold fnsD
  by_cases h : d.kind = 3 <;> simp [h]
theorem restD_snoc (l : List De) (d : De) : restD (l ++ [d]) = if d.kind = 3 then restD l else restD l ++ [d] := by
  unfold restD
  by_cases h : d.kind = 3 <;> simp [h]
theorem ord_perm (b : Bool) (l : List De) : (ordD b l).Perm l := by
  have h1 : (fnsD l ++ restD l).Perm l := by
    unfold fnsD restD
    exact ((List.reverse_perm _).append_right _).trans (List.filter_append_perm _ l)
  unfold ordD
  cases b with
  | false => exact h1
  | true => exact List.perm_append_comm.trans h1
theorem ord_cv (b : Bool) (l : List De) : (ordD b l).filter isCV = l.filter isCV := by
  have h1 : (fnsD l).filter isCV = [] := by
    rw [List.filter_eq_nil_iff]
    intro d hd
    unfold fnsD at hd
    rw [List.mem_reverse, List.mem_filter] at hd
    have : d.kind = 3 := by simpa using hd.2
    simp [isCV, this]
  have h2 : (restD l).filter isCV = l.filter isCV := by
    unfold restD
    rw [List.filter_filter]
    congr 1
    funext d
    by_cases h : d.kind = 3 <;> simp [isCV, h]
  unfold ordD
  cases b <;> simp [List.filter_append, h1, h2]
theorem ordM_right (b : Bool) {m : Mo} (h : errM rnS cnS m = 0) : errM rnS cnS (ordM b m) = 0 := by
  rw [errM_iff] at h ⊢
  obtain ⟨h1, h2, h3, h4, h5⟩ := h
  exact ⟨h1, h2, h3, by show (ordD b m.decls).length ≤ 64; rw [(ord_perm b m.decls).length_eq]; exact h4, fun d hd => h5 d ((ord_perm b m.decls).subset hd)⟩
theorem ord_dec (b : Bool) (far : List Con) (l : List De) (h : (decS far l).2.2.2 = 0) : (decS far (ordD b l)).2.2 = (0, 0) ∧ (decS far (ordD b l)).1 = (decS far l).1 := by
  obtain ⟨h1, h2, h3⟩ := dec_ev far l 0 [] [] [] h
  have hn : ((ordD b l).map (·.name)).Nodup := ((ord_perm b l).map _).nodup_iff.2 h1
  have := ev_dec far (ordD b l) 0 [] [] [] hn (by simp) (by rw [ord_cv, h3])
  unfold decS at *
  rw [this, ord_cv, h3]
  exact ⟨rfl, rfl⟩
theorem itOf_fn {d : De} (h : d.kind = 3) (cs : List Con) : itOf d cs = itOf d [] := by
  unfold itOf
  rw [if_neg (by omega), if_neg (by omega)]
theorem items_cons {d : De} (h : d.kind = 3) (r : List De) (cs : List Con) : itemsS (d :: r) cs = (if d.ex then [itOf d []] else []) ++ itemsS r cs := by
  have hk : ¬ d.kind = 1 := by omega
  rw [itemsS, itOf_fn h, if_neg hk]
theorem items_fn : ∀ (F : List De) (cs : List Con), (∀ d ∈ F, d.kind = 3) → itemsS F cs = (F.filter (·.ex)).map (fun d => itOf d [])
  | [], cs, _ => rfl
  | d :: F, cs, h => by
    have hk := h d (by simp)
    rw [items_cons hk, items_fn F cs (fun x hx => h x (by simp [hx])), List.filter_cons]
    cases d.ex <;> simp
theorem items_fnl : ∀ (F R : List De) (cs : List Con), (∀ d ∈ F, d.kind = 3) → itemsS (F ++ R) cs = itemsS F [] ++ itemsS R cs
  | [], R, cs, _ => rfl
  | d :: F, R, cs, h => by
    have hk := h d (by simp)
    rw [List.cons_append, items_cons hk, items_cons hk, items_fnl F R cs (fun x hx => h x (by simp [hx])), List.append_assoc]
theorem items_fnr : ∀ (R F : List De) (cs : List Con), (∀ d ∈ F, d.kind = 3) → itemsS (R ++ F) cs = itemsS R cs ++ itemsS F []
  | [], F, cs, h => by rw [List.nil_append, items_fn F cs h, items_fn F [] h]; rfl
  | d :: R, F, cs, h => by
    rw [List.cons_append, itemsS, itemsS, items_fnr R F _ h, List.append_assoc]
theorem items_split : ∀ (l : List De) (cs : List Con), (itemsS l cs).Perm (itemsS (l.filter fun d => d.kind == 3) [] ++ itemsS (restD l) cs)
  | [], cs => List.Perm.refl _
  | d :: l, cs => by
    by_cases hk : d.kind = 3
    · have e1 : (d :: l).filter (fun d => d.kind == 3) = d :: l.filter (fun d => d.kind == 3) := by rw [List.filter_cons, if_pos (by simp [hk])]
      have e2 : restD (d :: l) = restD l := by unfold restD; rw [List.filter_cons, if_neg (by simp [hk])]
      rw [e1, e2, items_cons hk, items_cons hk, List.append_assoc]
      exact (items_split l cs).append_left _
    · have e1 : (d :: l).filter (fun d => d.kind == 3) = l.filter (fun d => d.kind == 3) := by rw [List.filter_cons, if_neg (by simpa using hk)]
      have e2 : restD (d :: l) = d :: restD l := by unfold restD; rw [List.filter_cons, if_pos (by simpa using hk)]
      rw [e1, e2, itemsS, itemsS]
      refine ((items_split l _).append_left _).trans ?_
      rw [← List.append_assoc, ← List.append_assoc]
      exact List.perm_append_comm.append_right _
theorem fnsD_kind {l : List De} : ∀ d ∈ fnsD l, d.kind = 3 := fun d hd => by
  unfold fnsD at hd
  rw [List.mem_reverse, List.mem_filter] at hd
  simpa using hd.2
theorem filt_kind {l : List De} : ∀ d ∈ l.filter (fun d => d.kind == 3), d.kind = 3 := fun d hd => by simpa using (List.mem_filter.1 hd).2
theorem items_fns (l : List De) : (itemsS (fnsD l) []).Perm (itemsS (l.filter fun d => d.kind == 3) []) := by
  rw [items_fn _ _ fnsD_kind, items_fn _ _ filt_kind]
  unfold fnsD
  rw [List.filter_reverse, List.map_reverse]
  exact List.reverse_perm _
theorem ord_items (b : Bool) (l : List De) (cs : List Con) : (itemsS l cs).Perm (itemsS (ordD b l) cs) := by
  have h1 : (itemsS l cs).Perm (itemsS (fnsD l) [] ++ itemsS (restD l) cs) := (items_split l cs).trans ((items_fns l).symm.append_right _)
  unfold ordD
  cases b with
  | false => rw [if_neg (by simp), items_fnl _ _ _ fnsD_kind]; exact h1
  | true => rw [if_pos rfl, items_fnr _ _ _ fnsD_kind]; exact h1.trans List.perm_append_comm
theorem ord_exP (b : Bool) {m : Mo} {l : List Ty.Fc} (h : (exP m l).2 = 0) : exP (ordM b m) l = (0, 0) := by
  obtain ⟨h1, g, h2, h3⟩ := exP_ok h
  exact exP_of (ordM_right b h1) h2 (ord_dec b _ _ h3).1
theorem ord_isF (b : Bool) {m : Mo} {l : List Ty.Fc} {f f' : Ty.Fc} (h : (exP m l).2 = 0) (h1 : IsF m l f) (h2 : IsF (ordM b m) l f') : f = f' :=
  isF_one h1 h2 rfl (by rw [ord_exP b h]; simp [h]) (fun g g' q1 q2 q3 q4 => by
    have q2 : impS l m.imports = some g' := q2
    rw [q1] at q2
    cases q2
    have e : (ordM b m).decls = ordD b m.decls := rfl
    rw [e, (ord_dec b _ _ q3).2]
    exact ord_items b _ _)
theorem ok_ord (b : Bool) {m : Mo} (om : OkM m) : OkM (ordM b m) := ⟨om.name, om.imports, fun d hd => om.decls d ((ord_perm b m.decls).subset hd)⟩
end Go.Proofs.YtpjahcncknccdaaGreat.Fo.Ic
