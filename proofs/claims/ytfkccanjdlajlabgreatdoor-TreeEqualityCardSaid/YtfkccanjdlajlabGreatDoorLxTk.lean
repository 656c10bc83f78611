/- Rows of tokens in memory. -/
import Derived.Test.YtfkccanjdlajlabGreatDoorLxW7
import Derived.Deep.DeepAppendWide
namespace Go.Proofs.YtfkccanjdlajlabGreatDoor
open Go.RowKit Lx
set_option linter.unusedSimpArgs false
set_option linter.unusedVariables false

def tokC (t : Tok) : List Value := [.int .i64 (t.k : Int), .string ⟨t.x.toArray⟩, .int .i64 t.ty, .int .u64 t.b, .int .i64 (t.p : Int)]
/-- A row of tokens of the call's own. -/
def Tr (w : World) (B : Nat) (e : TypeId) (v : Value) (ts : List Tok) : Prop := w.ownsRow B e 5 v ts.length (ts.flatMap tokC)
/-- Tokens that can be read at v. -/
def Tk (w : World) (v : Value) (ts : List Tok) : Prop :=
  ∃ ao cap, v = .slice ao ts.length cap ∧ ts.length ≤ cap ∧ cap ≤ maxLen ∧
    (ts = [] ∨ ∃ b off, ao = some ⟨b, off, none⟩ ∧ ∀ (i : Nat) (t : Tok), ts[i]? = some t → ∀ (j : Nat) (x : Value), (tokC t)[j]? = some x → w.cell? ⟨b, off + i * 5 + j, none⟩ = some x)
theorem flat_len (ts : List Tok) : (ts.flatMap tokC).length = ts.length * 5 := by
  induction ts with
  | nil => rfl
  | cons t ts ih => rw [List.flatMap_cons, List.length_append, ih, List.length_cons]; simp [tokC]; omega
theorem flat_get (ts : List Tok) (i : Nat) (t : Tok) (h : ts[i]? = some t) (j : Nat) (x : Value) (hj : (tokC t)[j]? = some x) : (ts.flatMap tokC)[i * 5 + j]? = some x := by
  induction ts generalizing i with
  | nil => simp at h
  | cons t' ts ih =>
    have hl : (tokC t').length = 5 := rfl
    have hj5 : j < 5 := (List.getElem?_eq_some_iff.1 hj).1
    rw [List.flatMap_cons]
    cases i with
    | zero =>
      have : t' = t := by simpa using h
      subst this
      rw [List.getElem?_append_left (by rw [hl]; omega)]
      simpa using hj
    | succ i =>
      rw [List.getElem?_append_right (by rw [hl]; omega), hl, show (i + 1) * 5 + j - 5 = i * 5 + j by omega]
      exact ih i (by simpa using h)
theorem Tr.nil (w : World) (B : Nat) (e : TypeId) : Tr w B e (.slice none 0 0) [] := World.ownsRow_nil w B e 5
theorem Tr.tk {w : World} {B : Nat} {e : TypeId} {v : Value} {ts : List Tok} (h : Tr w B e v ts) : Tk w v ts := by
  obtain ⟨h1, h2⟩ := h
  rcases h2 with ⟨rfl, h0⟩ | ⟨g, cap, cur, rfl, hb, hg, hnc, hcm, hcs, ht⟩
  · obtain rfl : ts = [] := List.eq_nil_of_length_eq_zero h0
    exact ⟨none, 0, rfl, by simp, by simp, Or.inl rfl⟩
  · refine ⟨some ⟨g, 0, none⟩, cap, rfl, hnc, hcm, Or.inr ⟨g, 0, rfl, fun i t hi j x hj => ?_⟩⟩
    have hf := flat_get ts i t hi j x hj
    rw [show (0 : Nat) + i * 5 + j = i * 5 + j by omega, cell_of_row w g _ cur e (0, 0) hg]
    rw [← ht, List.getElem?_take] at hf
    split at hf
    · simpa using hf
    · cases hf
theorem Tr.keep {S : Nat → Prop} {w w' : World} {B : Nat} {e : TypeId} {v : Value} {ts : List Tok} (h : Tr w B e v ts) (hf : Fr S w w') (hS : ∀ k, v.ownBlock = some k → ¬ S k) : Tr w' B e v ts := by
  obtain ⟨h1, h2⟩ := h
  refine ⟨h1, ?_⟩
  rcases h2 with h0 | ⟨g, cap, cur, rfl, hb, hg, hr⟩
  · exact Or.inl h0
  · exact Or.inr ⟨g, cap, cur, rfl, hb, hf.heap hg (hS g rfl), hr⟩
theorem Tk.keep {S : Nat → Prop} {w w' : World} {v : Value} {ts : List Tok} (h : Tk w v ts) (hf : Fr S w w') (hS : ∀ k, v.ownBlock = some k → ¬ S k) : Tk w' v ts := by
  obtain ⟨ao, cap, rfl, h1, h2, h3⟩ := h
  refine ⟨ao, cap, rfl, h1, h2, ?_⟩
  rcases h3 with h0 | ⟨b, off, rfl, hc⟩
  · exact Or.inl h0
  · exact Or.inr ⟨b, off, rfl, fun i t hi j x hj => hf.cell (hc i t hi j x hj) (hS b rfl)⟩
theorem Tk.keepN {w w' : World} {v : Value} {ts : List Tok} (h : Tk w v ts) (hf : Fr (fun _ => False) w w') : Tk w' v ts := h.keep hf (fun _ _ f => f)
theorem Tr.keepN {w w' : World} {B : Nat} {e : TypeId} {v : Value} {ts : List Tok} (h : Tr w B e v ts) (hf : Fr (fun _ => False) w w') : Tr w' B e v ts := h.keep hf (fun _ _ f => f)

theorem info_tok3 : (Tryz.prog.info? 109).map (fun i => (i.zero, i.size, i.bytes)) = some (some (.agg #[.int .i64 0, .string ⟨#[]⟩, .int .i64 0, .int .u64 0, .int .i64 0]), 5, 48) := by kernel_rfl
theorem tok_arr (t : Tok) (i : Nat) (u : Value) (h : (tokC t)[i]? = some u) : (#[.int .i64 (t.k : Int), .string ⟨t.x.toArray⟩, .int .i64 t.ty, .int .u64 t.b, .int .i64 (t.p : Int)] : Array Value)[i]? = some u := by
  have : (tokC t).toArray[i]? = some u := by simpa using h
  exact this
theorem one_all (t : Tok) : ∀ u ∈ tokC t, u.oneCell' = true := by
  intro u hu
  simp only [tokC, List.mem_cons, List.not_mem_nil, or_false] at hu
  rcases hu with rfl | rfl | rfl | rfl | rfl <;> rfl
/-- append of one token to a row of the call's own. -/
theorem wpList_tok {w : World} {ops : Array Oper} {rest : List Oper} {o : Oper} {a : Act} {Q : Exit → Act → World → Prop} (hgd : o.guard = none) (s x : Operand) (ty e : TypeId)
    (hty : Tryz.prog.underlying ty = some (.slice e)) (hinfo : (Tryz.prog.info? e).map (fun i => (i.zero, i.size, i.bytes)) = some (some (.agg #[.int .i64 0, .string ⟨#[]⟩, .int .i64 0, .int .u64 0, .int .i64 0]), 5, 48))
    (ho : o.op = .call { callee := .builtin .append, args := #[s, x], argTypes := #[ty, ty] }) (B : Nat) (v : Value) (ts : List Tok) (t : Tok) (g c : Nat)
    (hs : a.eval s = v) (hr : Tr w B e v ts) (hx : a.eval x = .slice (some ⟨g, 0, none⟩) 1 c) (hc : ∀ (j : Nat) (u : Value), (tokC t)[j]? = some u → w.cell? ⟨g, j, none⟩ = some u)
    (hb : ((ts.length + 1) + (ts.length + 1) / 4 + 192) * 48 ≤ 281474976710656) (hB : B ≤ w.heap.size)
    (h : ∀ v' w', Tr w' B e v' (ts ++ [t]) → Fr (fun k => v.ownBlock = some k) w w' → wpList Tryz.prog ops Q rest (a.put o.dst v') w') : wpList Tryz.prog ops Q (o :: rest) a w := by
  cases hi : Tryz.prog.info? e with
  | none => rw [hi] at hinfo; cases hinfo
  | some i =>
    rw [hi] at hinfo
    simp only [Option.map_some, Option.some.injEq, Prod.mk.injEq] at hinfo
    refine wpList_append_own_wide w hgd s x ty ho B e i _ 5 48 hty hi hinfo.1 hinfo.2.1 hinfo.2.2 rfl (by decide) v ts.length (ts.flatMap tokC) hs hr ⟨g, 0, none⟩ 1 c (tokC t) hx rfl ?_ (one_all t) (by simp only [maxLen]; omega) hb hB ?_
    · intro j u hu
      have := hc j u hu
      cases j <;> simpa [Addr.add] using this
    · intro v' w' h2 h3 _
      refine h v' w' ?_ ((Fr.grown h3).mono (fun k _ hk => hk.symm))
      show w'.ownsRow B e 5 v' (ts ++ [t]).length ((ts ++ [t]).flatMap tokC)
      rw [List.length_append, List.flatMap_append]
      simpa using h2
end Go.Proofs.YtfkccanjdlajlabGreatDoor
