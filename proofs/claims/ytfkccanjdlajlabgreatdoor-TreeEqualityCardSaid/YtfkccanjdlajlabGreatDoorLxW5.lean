/- The program's longest, withoutNoughts, valueOf, meaning. -/
import Derived.Test.YtfkccanjdlajlabGreatDoorLxW4
import Derived.Test.YtfkccanjdlajlabGreatDoorFxB
import Derived.Test.YtfkccanjdlajlabGreatDoorIxA
import Derived.Laws.ResultCell
namespace Go.Proofs.YtfkccanjdlajlabGreatDoor
open Go.RowKit Lx
set_option linter.unusedSimpArgs false
set_option linter.unusedVariables false

theorem fr_of_kept {w w' : World} (h : w.keptBut w' (fun _ => False)) (hs : w.heap.size ≤ w'.heap.size) : Fr (fun _ => False) w w' := by
  refine ⟨h.1, h.2.1, hs, fun k hk _ => ?_⟩
  have := h.2.2 k hk
  cases e1 : w.heap[k]? with
  | none => rw [e1] at this; cases e2 : w'.heap[k]? <;> rw [e2] at this <;> simp_all
  | some o =>
    rw [e1] at this
    cases e2 : w'.heap[k]? with
    | none => rw [e2] at this; cases o <;> simp_all
    | some o' =>
      rw [e2] at this
      cases o with
      | cells c t fr =>
        cases o' with
        | cells c' t' fr' =>
          simp only at this
          obtain ⟨rfl, rfl, _, hc⟩ := this
          have e : c' = c := by
            apply Array.ext_getElem?
            intro j
            exact hc j (fun h => h)
          rw [e]
        | _ => simp_all
      | map es clock =>
        cases o' with
        | map es' clock' =>
          simp only [false_or] at this
          rw [this.1, this.2]
        | _ => simp_all
      | _ => simp_all
theorem tab_fr {w w' : World} (h : F.Tab w) (hf : Fr (fun _ => False) w w') : F.Tab w' := F.tab_kb h ⟨hf.kept, hf.size⟩

theorem longest_num (l : By) (i n : Nat) (k m : Int) (hi : i < l.length) (hl : l.length ≤ 9223372036854775800)
    (hx : ∀ w, (Instr.index 9 (.string ⟨l.toArray⟩) (.int .i64 (i : Int))).run Tryz.prog w = .ok (.int .u8 (n : Int)) w) (ht : (bits BinOp.and IntKind.i64 (partsN n : Int) 1 != 0) = true)
    (kn : ∀ w, Calls Tryz.prog 111 #[.string ⟨l.toArray⟩, .int .i64 (i : Int)] w fun e w' => e = .returned (.tuple #[.int .i64 k, .int .i64 m]) ∧ w' = w) (w : World) :
    Calls Tryz.prog 89 #[.string ⟨l.toArray⟩, .int .i64 (i : Int)] w fun e w' => e = .returned (.tuple #[.int .i64 k, .int .i64 m]) ∧ w' = w := by
  have hs := str_len l
  have kp := parts_walk n _ rfl
  go_enter Tryz.func89, Tryz.ntmps89
  go_wp2_with (first
    | (go_at_call 110; refine (kp _).mono ?_; rintro e w' ⟨rfl, rfl⟩)
    | (go_at_call 111; refine (kn _).mono ?_; rintro e w' ⟨rfl, rfl⟩))
  go_ret2
  exact ⟨rfl, rfl⟩
theorem longest_name (l q : By) (i n a : Nat) (r : Bool) (hi : i < l.length) (ha : a ≤ l.length) (hia : i ≤ a) (hl : l.length ≤ 9223372036854775800)
    (hx : ∀ w, (Instr.index 9 (.string ⟨l.toArray⟩) (.int .i64 (i : Int))).run Tryz.prog w = .ok (.int .u8 (n : Int)) w) (ht : (bits BinOp.and IntKind.i64 (partsN n : Int) 1 != 0) = false) (ht4 : (bits BinOp.and IntKind.i64 (partsN n : Int) 4 != 0) = true)
    (hq : Hidden ((l.drop i).take (a - i) = q)) (hr : Hidden (decide (q ∈ wordsL) = r)) (hn : Hidden (i + run nmB (l.drop i) = a)) (w : World) :
    Calls Tryz.prog 89 #[.string ⟨l.toArray⟩, .int .i64 (i : Int)] w fun e w' => e = .returned (.tuple #[.int .i64 (if r then 2 else 1), .int .i64 (a : Int)]) ∧ w' = w := by
  have hs := str_len l
  have kp := parts_walk n _ rfl
  have hsl := slice_mid l i a hia ha (by omega)
  rw [show (l.drop i).take (a - i) = q from hq] at hsl
  have kr := reserved_any q r hr
  have ke := runEnd_walk l i 4 a nmB p4 (by omega) (by omega) hn
  cases r
  all_goals
    go_enter Tryz.func89, Tryz.ntmps89
    go_wp2_with (first
      | (go_at_call 110; refine (kp _).mono ?_; rintro e w' ⟨rfl, rfl⟩)
      | (go_at_call 112; refine (ke _).mono ?_; rintro e w' ⟨rfl, rfl⟩)
      | (go_at_call 105; refine (kr _).mono ?_; rintro e w' ⟨rfl, rfl⟩))
    go_ret2
    exact ⟨rfl, rfl⟩
theorem longest_mark (l : By) (i n m : Nat) (hi : i < l.length) (hm : m ≤ 2) (hl : l.length ≤ 9223372036854775800)
    (hx : ∀ w, (Instr.index 9 (.string ⟨l.toArray⟩) (.int .i64 (i : Int))).run Tryz.prog w = .ok (.int .u8 (n : Int)) w) (ht : (bits BinOp.and IntKind.i64 (partsN n : Int) 1 != 0) = false) (ht4 : (bits BinOp.and IntKind.i64 (partsN n : Int) 4 != 0) = false)
    (hn : Hidden (mkLen (l.drop i) = m)) (h0 : Hidden (l.drop i ≠ [])) (w : World) :
    Calls Tryz.prog 89 #[.string ⟨l.toArray⟩, .int .i64 (i : Int)] w fun e w' => e = .returned (.tuple #[.int .i64 5, .int .i64 ((i + m : Nat) : Int)]) ∧ w' = w := by
  have hs := str_len l
  have kp := parts_walk n _ rfl
  have hsl := slice_from l i (by omega) (by omega)
  have km := mark_any (l.drop i) m h0 (by rw [List.length_drop]; omega) hn
  go_enter Tryz.func89, Tryz.ntmps89
  go_wp2_with (first
    | (go_at_call 110; refine (kp _).mono ?_; rintro e w' ⟨rfl, rfl⟩)
    | (go_at_call 113; refine (km _).mono ?_; rintro e w' ⟨rfl, rfl⟩))
  go_ret2
  exact ⟨rfl, rfl⟩
theorem longest_any (l : By) (i k n : Nat) (hi : i < l.length) (hl : l.length ≤ 9223372036854775800) (h : kindLen wordsL (l.drop i) = (k, n)) (w : World) :
    Calls Tryz.prog 89 #[.string ⟨l.toArray⟩, .int .i64 (i : Int)] w fun e w' => e = .returned (.tuple #[.int .i64 (k : Int), .int .i64 ((i + n : Nat) : Int)]) ∧ w' = w := by
  obtain ⟨c, hc⟩ : ∃ c, l[i]? = some c := ⟨l[i], List.getElem?_eq_getElem hi⟩
  have hx := str_index l i c hc
  have ed := drop_at hc
  have hne : l.drop i ≠ [] := by rw [ed]; simp
  rw [ed, kind_cons, ← ed] at h
  have pd := parts_dgt c
  by_cases hd : dgt c = true
  · rw [if_pos hd] at h
    exact longest_num l i c.toNat k ((i + n : Nat) : Int) hi hl hx (pd.1.trans hd) (ln_any l i k n hi hl h) w
  · rw [if_neg hd] at h
    have hd' : dgt c = false := by simpa using hd
    have hle := kind_le wordsL (l.drop i)
    by_cases hlt : ltr c = true
    · rw [if_pos hlt] at h
      simp only [Prod.mk.injEq] at h
      obtain ⟨h1, h2⟩ := h
      have hr := run_le nmB (l.drop i)
      rw [List.length_drop] at hr
      have := longest_name l ((l.drop i).take (i + n - i)) i c.toNat (i + n) _ hi (by omega) (by omega) hl hx (pd.1.trans hd') (pd.2.2.trans (by simp [nmB, hlt])) rfl rfl (by show _ = _; omega) w
      rw [show i + n - i = run nmB (l.drop i) by omega] at this
      rw [← h1]
      by_cases hw : (l.drop i).take (run nmB (l.drop i)) ∈ wordsL
      · simp only [decide_eq_true hw, if_true, if_pos hw] at this ⊢
        exact this
      · simp only [decide_eq_false hw, Bool.false_eq_true, if_false, if_neg hw] at this ⊢
        exact this
    · rw [if_neg hlt] at h
      simp only [Prod.mk.injEq] at h
      obtain ⟨rfl, h2⟩ := h
      have hm : n ≤ 2 := by
        rw [← h2]
        match l.drop i with
        | [] => simp [mkLen]
        | [a] => simp only [mkLen]; split <;> omega
        | a :: b :: r => simp only [mkLen]; repeat' split
                         all_goals omega
      exact longest_mark l i c.toNat n hi hm hl hx (pd.1.trans hd') (pd.2.2.trans (by simp [nmB, hd', hlt])) h2 hne w

def noughts : By → By
  | [] => []
  | [c] => [c]
  | c :: d :: r => if c = 48 then noughts (d :: r) else c :: d :: r
theorem noughts_walk (l R : By) (hl : l.length ≤ 9223372036854775800) (hR : Hidden (noughts l = R)) (w : World) :
    Calls Tryz.prog 115 #[.string ⟨l.toArray⟩] w fun e w' => e = .returned (.string ⟨R.toArray⟩) ∧ w' = w := by
  go_enter Tryz.func115, Tryz.ntmps115
  go_wp2
  go_loopg [0] l.length (fun k iv wr => ∃ q : By, iv = .string ⟨q.toArray⟩ ∧ q.length ≤ l.length ∧ noughts q = R ∧ k = q.length ∧ wr = w)
  case atStart => exact ⟨l, rfl, by omega, hR, rfl, rfl⟩
  case round =>
    obtain ⟨q, rfl, hq, hf, hgk, rfl⟩ := hrel
    have hgkH : Hidden (gk = q.length) := hgk
    clear hgk hR
    have hs := str_len q
    by_cases h1 : 1 < q.length
    · obtain ⟨c, d, r, hqe⟩ : ∃ c d r, q = c :: d :: r := by
        match q with
        | [] => simp at h1
        | [c] => simp at h1
        | c :: d :: r => exact ⟨c, d, r, rfl⟩
      have hx : ∀ w, (Instr.index 9 (.string ⟨q.toArray⟩) (.int .i64 0)).run Tryz.prog w = .ok (.int .u8 (c.toNat : Int)) w := str_index q 0 c (by rw [hqe]; rfl)
      have hsl : ∀ w, (Instr.slice 9 (.string ⟨q.toArray⟩) (some (.int .i64 1)) none none).run Tryz.prog w = .ok (.string ⟨(q.drop 1).toArray⟩) w := slice_from q 1 (by omega) (by omega)
      by_cases hc : c = 48
      · have hcn : ((c.toNat : Int) == 48) = true := by rw [hc]; rfl
        have hfH : Hidden (noughts (q.drop 1) = R) := by
          show _ = _
          rw [hqe] at hf ⊢
          rw [← hf, hc]
          simp [noughts]
        have hlH : Hidden ((q.drop 1).length + 1 = q.length) := by show _ = _; rw [List.length_drop]; omega
        clear hf hc hqe
        go_wp2
        go_roundg ((q.drop 1).length)
        case measure =>
          have : gk = q.length := hgkH
          have : (q.drop 1).length + 1 = q.length := hlH
          omega
        case rel =>
          have : (q.drop 1).length + 1 = q.length := hlH
          exact ⟨q.drop 1, by rw [List.drop_one], by omega, hfH, rfl, rfl⟩
      · have hcn : ((c.toNat : Int) == 48) = false := by
          rw [beq_eq_false_iff_ne]
          intro e
          exact hc (UInt8.toNat_inj.1 (by simpa using (by omega : c.toNat = 48)))
        have hfH : Hidden (q = R) := by
          show _ = _
          rw [hqe] at hf ⊢
          rw [← hf]
          simp [noughts, hc]
        clear hf hc hqe
        go_wp2
        go_ret
        rw [← show q = R from hfH]
        exact ⟨rfl, rfl⟩
    · have hfH : Hidden (q = R) := by
        show _ = _
        match q, h1 with
        | [], _ => exact hf
        | [c], _ => exact hf
        | c :: d :: r, h1 => simp at h1
      clear hf
      go_wp2
      go_ret
      rw [← show q = R from hfH]
      exact ⟨rfl, rfl⟩

/-- The results of a function whose first one lies in memory. -/
theorem post_cell {fn : Func} {R : Ending → World → Prop} {a : Act} {w : World} {p u : Tmp} {ty : TypeId} (h : fn.results = #[.cell p ty, .tmp u]) (hd : a.defers = []) (g : Nat) (cs : Array Value)
    (hp : a.tmps.getD p undef = .pointer (some ⟨g, 0, none⟩)) (hl : (loadVar ty ⟨g, 0, none⟩).run Tryz.prog w = .ok (.agg cs) w)
    (hR : R (.returned (.tuple #[.agg cs, a.tmps.getD u undef])) w) : bodyPost Tryz.prog fn R .ret a w := by
  refine ⟨hd, _, ?_, hR⟩
  rw [results_cell_tmp h, hp]
  simp [asAddr, hl, Result.andThen]
theorem info_val : (Tryz.prog.info? 42).map (·.size) = some 2 := by kernel_rfl
theorem info_tok : (Tryz.prog.info? 109).map (·.size) = some 5 := by kernel_rfl
theorem valueOf_walk (t b e t' b' : Int) (h : Hidden ((e = 0 ∧ t' = t ∧ b' = b) ∨ (e ≠ 0 ∧ t' = 0 ∧ b' = 0))) (w : World) :
    Calls Tryz.prog 116 #[.int .i64 t, .int .u64 b, .int .i64 e] w fun r w' => r = .returned (.tuple #[.agg #[.int .i64 t', .int .u64 b'], .int .i64 e]) ∧ Fr (fun _ => False) w w' := by
  rcases h with ⟨rfl, rfl, rfl⟩ | ⟨h, rfl, rfl⟩
  · go_enter Tryz.func116, Tryz.ntmps116
    go_wp2
    exact post_cell rfl rfl w.heap.size _ rfl (run_loadVar_row _ _ _ _ _ _ _ (alloc_new _ _) Tryz.underlying42 rfl info_val) ⟨rfl, Fr.alloc _ _ _⟩
  · have h1 : (e != 0) = true := by simpa using h
    clear h
    go_enter Tryz.func116, Tryz.ntmps116
    go_wp2
    exact post_cell rfl rfl w.heap.size _ rfl (run_loadVar_row _ _ _ _ _ _ _ (alloc_new _ _) Tryz.underlying42 rfl info_val) ⟨rfl, Fr.alloc _ _ _⟩

/-- What a token means: its value's type and bits, and an error. -/
def valS (k : Nat) (x : By) : Int × Int × Int :=
  if k = 1 then (0, 0, if 32 < x.length then 12 else 0)
  else if k = 3 then (if (I.natS (noughts x)).2.2 = 0 then (1, (I.natS (noughts x)).1, 0) else (0, 0, (I.natS (noughts x)).2.2))
  else if k = 4 then (if x.take 2 = [48, 120] then (if (F.parseS x).2 = 0 then (2, (F.parseS x).1, 0) else (0, 0, (F.parseS x).2)) else (if (F.litS x).2 = 0 then (2, (F.litS x).1, 0) else (0, 0, (F.litS x).2)))
  else (0, 0, 0)
theorem noughts_le : ∀ (l : By), (noughts l).length ≤ l.length
  | [] => by simp [noughts]
  | [c] => by simp [noughts]
  | c :: d :: r => by
    unfold noughts
    split
    · have := noughts_le (d :: r)
      simp only [List.length_cons] at this ⊢
      omega
    · simp
theorem meaning_name (x : By) (e : Int) (hl : x.length ≤ 9223372036854775800) (h : Hidden ((if 32 < x.length then 12 else 0) = e)) (w : World) :
    Calls Tryz.prog 90 #[.int .i64 1, .string ⟨x.toArray⟩] w fun r w' => r = .returned (.tuple #[.agg #[.int .i64 0, .int .u64 0], .int .i64 e]) ∧ Fr (fun _ => False) w w' := by
  have hs := str_len x
  by_cases h1 : 32 < x.length
  · have he : 12 = e := by rw [← (show _ = e from h), if_pos h1]
    subst he
    go_enter Tryz.func90, Tryz.ntmps90
    go_wp2
    exact post_cell rfl rfl w.heap.size _ rfl (run_loadVar_row _ _ _ _ _ _ _ (alloc_new _ _) Tryz.underlying42 rfl info_val) ⟨rfl, Fr.alloc _ _ _⟩
  · have he : 0 = e := by rw [← (show _ = e from h), if_neg h1]
    subst he
    go_enter Tryz.func90, Tryz.ntmps90
    go_wp2
    exact post_cell rfl rfl w.heap.size _ rfl (run_loadVar_row _ _ _ _ _ _ _ (alloc_new _ _) Tryz.underlying42 rfl info_val) ⟨rfl, Fr.alloc _ _ _⟩
theorem meaning_plain (k : Nat) (x : By) (hk : k = 2 ∨ k = 5) (w : World) :
    Calls Tryz.prog 90 #[.int .i64 (k : Int), .string ⟨x.toArray⟩] w fun r w' => r = .returned (.tuple #[.agg #[.int .i64 0, .int .u64 0], .int .i64 0]) ∧ Fr (fun _ => False) w w' := by
  rcases hk with rfl | rfl
  all_goals
    go_enter Tryz.func90, Tryz.ntmps90
    go_wp2
    exact post_cell rfl rfl w.heap.size _ rfl (run_loadVar_row _ _ _ _ _ _ _ (alloc_new _ _) Tryz.underlying42 rfl info_val) ⟨rfl, Fr.alloc _ _ _⟩
end Go.Proofs.YtfkccanjdlajlabGreatDoor
