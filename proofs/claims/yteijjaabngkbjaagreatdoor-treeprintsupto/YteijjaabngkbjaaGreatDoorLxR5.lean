/- The document's numeral, of digits. -/
import Derived.Test.YteijjaabngkbjaaGreatDoorLxR4
namespace Go.Proofs.YteijjaabngkbjaaGreatDoor
open Go.RowKit Lx
set_option linter.unusedSimpArgs false
set_option linter.unusedVariables false

/-- No 0x at a place. -/
def No0x (l : By) (i : Nat) : Prop :=
  (∃ n : Nat, (∀ w, (Instr.index 9 (.string ⟨l.toArray⟩) (.int .i64 (i : Int))).run Tryz.prog w = .ok (.int .u8 (n : Int)) w) ∧ ((n : Int) == 48) = false) ∨
  ((∀ w, (Instr.index 9 (.string ⟨l.toArray⟩) (.int .i64 (i : Int))).run Tryz.prog w = .ok (.int .u8 48) w) ∧ decide ((i : Int) + 1 < (l.length : Int)) = false) ∨
  ((∀ w, (Instr.index 9 (.string ⟨l.toArray⟩) (.int .i64 (i : Int))).run Tryz.prog w = .ok (.int .u8 48) w) ∧ i + 1 < l.length ∧ ∃ n : Nat, (∀ w, (Instr.index 9 (.string ⟨l.toArray⟩) (.int .i64 ((i : Int) + 1))).run Tryz.prog w = .ok (.int .u8 (n : Int)) w) ∧ ((n : Int) == 120) = false)
theorem no0x (l : By) (i : Nat) (hi : i < l.length) (h : ¬ (l.drop i).take 2 = [48, 120]) : No0x l i := by
  obtain ⟨c, hc⟩ : ∃ c, l[i]? = some c := ⟨l[i], List.getElem?_eq_getElem hi⟩
  by_cases h48 : c = 48
  · subst h48
    by_cases h1 : i + 1 < l.length
    · obtain ⟨d, hd⟩ : ∃ d, l[i + 1]? = some d := ⟨l[i + 1], List.getElem?_eq_getElem h1⟩
      refine Or.inr (Or.inr ⟨str_index l i 48 hc, h1, d.toNat, index_succ l i d hd, byte_ne (n := 120) (by decide) (fun e => h ?_)⟩)
      rw [drop_at hc, drop_at hd, e]
      simp
    · exact Or.inr (Or.inl ⟨str_index l i 48 hc, decide_eq_false (by omega)⟩)
  · exact Or.inl ⟨c.toNat, str_index l i c hc, byte_ne (n := 48) (by decide) h48⟩
/-- No point with a digit behind it at a place. -/
def NoPt (l : By) (a : Nat) : Prop :=
  (decide ((a : Int) + 1 < (l.length : Int)) = false) ∨ (a + 1 < l.length ∧ ∃ n : Nat, (∀ w, (Instr.index 9 (.string ⟨l.toArray⟩) (.int .i64 (a : Int))).run Tryz.prog w = .ok (.int .u8 (n : Int)) w) ∧ ((n : Int) == 46) = false ∧ (∀ w, Calls Tryz.prog 94 #[.int .u8 (n : Int)] w fun e w' => e = .returned (.bool false) ∧ w' = w)) ∨
  (a + 1 < l.length ∧ (∀ w, (Instr.index 9 (.string ⟨l.toArray⟩) (.int .i64 (a : Int))).run Tryz.prog w = .ok (.int .u8 46) w) ∧ ∃ n : Nat, (∀ w, (Instr.index 9 (.string ⟨l.toArray⟩) (.int .i64 ((a : Int) + 1))).run Tryz.prog w = .ok (.int .u8 (n : Int)) w) ∧ (∀ w, Calls Tryz.prog 94 #[.int .u8 (n : Int)] w fun e w' => e = .returned (.bool false) ∧ w' = w))
theorem dig46 (w : World) : Calls Tryz.prog 94 #[.int .u8 46] w fun e w' => e = .returned (.bool false) ∧ w' = w := rdigit_walk 46 false rfl w
theorem noPt (l : By) (a : Nat) (hz : ∀ c, l[a]? = some c → dgt c = false) (h : ¬ (l[a]? = some 46 ∧ run dgt (l.drop (a + 1)) ≠ 0)) : NoPt l a := by
  by_cases h1 : a + 1 < l.length
  · obtain ⟨c, hc⟩ : ∃ c, l[a]? = some c := ⟨l[a], List.getElem?_eq_getElem (by omega)⟩
    obtain ⟨d, hd⟩ : ∃ d, l[a + 1]? = some d := ⟨l[a + 1], List.getElem?_eq_getElem h1⟩
    by_cases h46 : c = 46
    · subst h46
      have hdd : dgt d = false := by
        cases hdd : dgt d
        · rfl
        · refine absurd ⟨hc, fun e => ?_⟩ h
          rw [run_zero] at e
          have := e d (by rw [drop_zero_get]; exact hd)
          rw [this] at hdd
          cases hdd
      have kd := rdigit_walk d.toNat _ rfl
      rw [(class_nat d).2.1, hdd] at kd
      exact Or.inr (Or.inr ⟨h1, str_index l a 46 hc, d.toNat, index_succ l a d hd, kd⟩)
    · have kd := rdigit_walk c.toNat _ rfl
      rw [(class_nat c).2.1, hz c hc] at kd
      exact Or.inr (Or.inl ⟨h1, c.toNat, str_index l a c hc, byte_ne (n := 46) (by decide) h46, kd⟩)
  · exact Or.inl (decide_eq_false (by omega))

set_option maxRecDepth 20000 in
set_option maxHeartbeats 8000000 in
theorem numeral_int (l x : By) (i a : Nat) (v : Int) (b : Bool) (hi : i < l.length) (ha : a ≤ l.length) (hl : l.length ≤ 4096) (h0 : No0x l i) (hrun : Hidden (i + run dgt (l.drop i) = a)) (hia : i ≤ a) (hpt : Hidden (NoPt l a))
    (hx : Hidden ((l.drop i).take (a - i) = x)) (hdx : Hidden (∀ c ∈ x, dgt c = true)) (hn : Hidden (numR x = (v, b))) (hxl : x.length ≤ 4096) (w : World) :
    Calls Tryz.prog 95 #[.string ⟨l.toArray⟩, .int .i64 (i : Int)] w fun r w' => r = .returned (.tuple #[.agg #[.int .i64 3, .string ⟨x.toArray⟩, .int .i64 (if b then 1 else 0), .int .u64 (if b then v else 0), .int .i64 (i : Int)], .int .i64 (if b then 0 else 80)]) ∧ Fr (fun _ => False) w w' := by
  have hs := str_len l
  have kn := number_walk x v b (by omega) hdx hn
  have hsl := slice_mid l i a hia ha (by omega)
  rw [show (l.drop i).take (a - i) = x from hx] at hsl
  rcases h0 with ⟨n0, hx0, h48⟩ | ⟨hx0, h1⟩ | ⟨hx0, h1, n1, hx1, h120⟩
  all_goals
    go_enter Tryz.func95, Tryz.ntmps95
    go_wp2_with fail
    go_loopg [7] (l.length - (i)) (fun k iv wr => ∃ j : Nat, iv = .int .i64 (j : Int) ∧ i ≤ j ∧ j ≤ l.length ∧ j + run dgt (l.drop j) = a ∧ k = l.length - j ∧ wr = ((w.alloc (.cells #[.int .i64 0, .string ⟨#[]⟩, .int .i64 0, .int .u64 0, .int .i64 0] 92 (0, 0))).alloc (.cells #[.int .i64 3, .string ⟨#[]⟩, .int .i64 0, .int .u64 0, .int .i64 (i : Int)] 92 (0, 0))))
    case atStart => exact ⟨i, by first | rfl | go_num, by omega, by omega, hrun, rfl, rfl⟩
    case round =>
      obtain ⟨j, rfl, hsj, hj, hf, hgk, rfl⟩ := hrel
      have hgkH : Hidden (gk = l.length - j) := hgk
      clear hgk
      have next : ∀ c, l[j]? = some c → dgt c = true → j + 1 + run dgt (l.drop (j + 1)) = a := fun c hc hp => by rw [run_step _ l j c hc, if_pos hp] at hf; omega
      by_cases hgo : ∃ c, l[j]? = some c ∧ dgt c = true
      · obtain ⟨c, hc, hp⟩ := hgo
        have hjl : j < l.length := (List.getElem?_eq_some_iff.1 hc).1
        have hxj := str_index l j c hc
        have kc := rdigit_walk c.toNat _ rfl
        rw [(class_nat c).2.1, hp] at kc
        have hfH : Hidden (j + 1 + run dgt (l.drop (j + 1)) = a) := next c hc hp
        clear hf next hc hp
        go_wp2_with (go_at_call 94; refine (kc _).mono ?_; rintro e w' ⟨rfl, rfl⟩)
        go_roundg (l.length - (j + 1))
        case measure =>
          have : gk = l.length - j := hgkH
          omega
        case rel => exact ⟨j + 1, by go_num, by omega, by omega, hfH, rfl, rfl⟩
      · have hja : j = a := by
          have hz : run dgt (l.drop j) = 0 := by
            rw [run_zero]
            intro c hc
            rw [drop_zero_get] at hc
            cases hpc : dgt c
            · rfl
            · exact absurd ⟨c, hc, hpc⟩ hgo
          omega
        have stop : (¬ j < l.length) ∨ ∃ n : Nat, j < l.length ∧ (∀ w, (Instr.index 9 (.string ⟨l.toArray⟩) (.int .i64 (j : Int))).run Tryz.prog w = .ok (.int .u8 (n : Int)) w) ∧ (∀ w, Calls Tryz.prog 94 #[.int .u8 (n : Int)] w fun e w' => e = .returned (.bool false) ∧ w' = w) := by
          by_cases hjl : j < l.length
          · obtain ⟨c, hc⟩ : ∃ c, l[j]? = some c := ⟨l[j], List.getElem?_eq_getElem hjl⟩
            have kc := rdigit_walk c.toNat _ rfl
            have hpc : dgt c = false := by
              cases hpc : dgt c
              · rfl
              · exact absurd ⟨c, hc, hpc⟩ hgo
            rw [(class_nat c).2.1, hpc] at kc
            exact Or.inr ⟨c.toNat, hjl, str_index l j c hc, kc⟩
          · exact Or.inl hjl
        clear hf next hgo
        subst hja
        rcases (show NoPt l j from hpt) with np | ⟨np1, n2, np2, np3, np4⟩ | ⟨np1, np2, n2, np3, np4⟩
        · rcases stop with hjl | ⟨n, hjl, hxj, kc⟩
          all_goals
            cases b
            all_goals
              go_wp2_with (first
                | (go_at_call 94; refine (kc _).mono ?_; rintro e w' ⟨rfl, rfl⟩)
                | (go_at_call 144; refine (kn _).mono ?_; rintro e w' ⟨rfl, rfl⟩))
              (try simp only [Exit.inBlock, Exit.then])
              exact post_cell rfl rfl w.heap.size _ rfl (run_loadVar_row _ _ _ _ _ _ _ (heap_alloc2_old _ _ _) Tryz.underlying92 rfl info_rtok) ⟨rfl, (Fr.alloc _ _ _).same (Fr.alloc _ _ _)⟩
        · clear stop
          have hjl : j < l.length := by omega
          cases b
          all_goals
            go_wp2_with (first
              | (go_at_call 94; refine (np4 _).mono ?_; rintro e w' ⟨rfl, rfl⟩)
              | (go_at_call 144; refine (kn _).mono ?_; rintro e w' ⟨rfl, rfl⟩))
            (try simp only [Exit.inBlock, Exit.then])
            exact post_cell rfl rfl w.heap.size _ rfl (run_loadVar_row _ _ _ _ _ _ _ (heap_alloc2_old _ _ _) Tryz.underlying92 rfl info_rtok) ⟨rfl, (Fr.alloc _ _ _).same (Fr.alloc _ _ _)⟩
        · clear stop
          have hjl : j < l.length := by omega
          cases b
          all_goals
            go_wp2_with fail
            go_at_call 94
            refine (dig46 _).mono ?_
            rintro e w' ⟨rfl, rfl⟩
            go_wp2_with (first
              | (go_at_call 94; refine (np4 _).mono ?_; rintro e w' ⟨rfl, rfl⟩)
              | (go_at_call 144; refine (kn _).mono ?_; rintro e w' ⟨rfl, rfl⟩))
            (try simp only [Exit.inBlock, Exit.then])
            exact post_cell rfl rfl w.heap.size _ rfl (run_loadVar_row _ _ _ _ _ _ _ (heap_alloc2_old _ _ _) Tryz.underlying92 rfl info_rtok) ⟨rfl, (Fr.alloc _ _ _).same (Fr.alloc _ _ _)⟩

set_option maxRecDepth 20000 in
set_option maxHeartbeats 8000000 in
theorem numeral_flt (l x : By) (i a bb nd : Nat) (v e : Int) (hi : i < l.length) (ha : a + 1 < l.length) (hb : bb ≤ l.length) (hl : l.length ≤ 4096) (h0 : No0x l i) (hrun : Hidden (i + run dgt (l.drop i) = a)) (hia : i ≤ a) (hab : a + 1 ≤ bb)
    (hp46 : Hidden (l[a]? = some 46)) (hx46 : ∀ w, (Instr.index 9 (.string ⟨l.toArray⟩) (.int .i64 (a : Int))).run Tryz.prog w = .ok (.int .u8 46) w)
    (hxd : ∀ w, (Instr.index 9 (.string ⟨l.toArray⟩) (.int .i64 ((a : Int) + 1))).run Tryz.prog w = .ok (.int .u8 (nd : Int)) w) (kd : ∀ w, Calls Tryz.prog 94 #[.int .u8 (nd : Int)] w fun e w' => e = .returned (.bool true) ∧ w' = w)
    (hrun2 : Hidden (a + 1 + run dgt (l.drop (a + 1)) = bb))
    (hx : Hidden ((l.drop i).take (bb - i) = x)) (hp : Hidden (F.litS x = (v, e))) (hxl : x.length ≤ 4096) (w : World) :
    Calls Tryz.prog 95 #[.string ⟨l.toArray⟩, .int .i64 (i : Int)] w fun r w' => r = .returned (.tuple #[.agg #[.int .i64 4, .string ⟨x.toArray⟩, .int .i64 2, .int .u64 v, .int .i64 (i : Int)], .int .i64 e]) ∧ Fr (fun _ => False) w w' := by
  have hs := str_len l
  have kp := F.rlit_any x v e hp (by omega)
  have hsl := slice_mid l i bb (by omega) hb (by omega)
  rw [show (l.drop i).take (bb - i) = x from hx] at hsl
  rcases h0 with ⟨n0, hx0, h48⟩ | ⟨hx0, h1⟩ | ⟨hx0, h1, n1, hx1, h120⟩
  all_goals
    go_enter Tryz.func95, Tryz.ntmps95
    go_wp2_with fail
    go_loopg [7] (l.length - (i)) (fun k iv wr => ∃ j : Nat, iv = .int .i64 (j : Int) ∧ i ≤ j ∧ j ≤ l.length ∧ j + run dgt (l.drop j) = a ∧ k = l.length - j ∧ wr = ((w.alloc (.cells #[.int .i64 0, .string ⟨#[]⟩, .int .i64 0, .int .u64 0, .int .i64 0] 92 (0, 0))).alloc (.cells #[.int .i64 3, .string ⟨#[]⟩, .int .i64 0, .int .u64 0, .int .i64 (i : Int)] 92 (0, 0))))
    case atStart => exact ⟨i, by first | rfl | go_num, by omega, by omega, hrun, rfl, rfl⟩
    case round =>
      obtain ⟨j, rfl, hsj, hj, hf, hgk, rfl⟩ := hrel
      have hgkH : Hidden (gk = l.length - j) := hgk
      clear hgk
      have next : ∀ c, l[j]? = some c → dgt c = true → j + 1 + run dgt (l.drop (j + 1)) = a := fun c hc hp => by rw [run_step _ l j c hc, if_pos hp] at hf; omega
      by_cases hgo : ∃ c, l[j]? = some c ∧ dgt c = true
      · obtain ⟨c, hc, hp⟩ := hgo
        have hjl : j < l.length := (List.getElem?_eq_some_iff.1 hc).1
        have hxj := str_index l j c hc
        have kc := rdigit_walk c.toNat _ rfl
        rw [(class_nat c).2.1, hp] at kc
        have hfH : Hidden (j + 1 + run dgt (l.drop (j + 1)) = a) := next c hc hp
        clear hf next hc hp
        go_wp2_with (go_at_call 94; refine (kc _).mono ?_; rintro e w' ⟨rfl, rfl⟩)
        go_roundg (l.length - (j + 1))
        case measure =>
          have : gk = l.length - j := hgkH
          omega
        case rel => exact ⟨j + 1, by go_num, by omega, by omega, hfH, rfl, rfl⟩
      · have hja : j = a := by
          have hz : run dgt (l.drop j) = 0 := by
            rw [run_zero]
            intro c hc
            rw [drop_zero_get] at hc
            cases hpc : dgt c
            · rfl
            · exact absurd ⟨c, hc, hpc⟩ hgo
          omega
        have stop : (¬ j < l.length) ∨ ∃ n : Nat, j < l.length ∧ (∀ w, (Instr.index 9 (.string ⟨l.toArray⟩) (.int .i64 (j : Int))).run Tryz.prog w = .ok (.int .u8 (n : Int)) w) ∧ (∀ w, Calls Tryz.prog 94 #[.int .u8 (n : Int)] w fun e w' => e = .returned (.bool false) ∧ w' = w) := by
          by_cases hjl : j < l.length
          · obtain ⟨c, hc⟩ : ∃ c, l[j]? = some c := ⟨l[j], List.getElem?_eq_getElem hjl⟩
            have kc := rdigit_walk c.toNat _ rfl
            have hpc : dgt c = false := by
              cases hpc : dgt c
              · rfl
              · exact absurd ⟨c, hc, hpc⟩ hgo
            rw [(class_nat c).2.1, hpc] at kc
            exact Or.inr ⟨c.toNat, hjl, str_index l j c hc, kc⟩
          · exact Or.inl hjl
        clear hf next hgo
        subst hja
        clear stop
        have hjl : j < l.length := by omega
        obtain ⟨a, hae⟩ : ∃ a, a = j := ⟨_, rfl⟩
        rw [← hae] at hp46 hx46 hxd hrun2 ha hjl hsj ⊢
        clear hae hj
        go_wp2_with fail
        go_at_call 94
        refine (dig46 _).mono ?_
        rintro e w' ⟨rfl, rfl⟩
        go_wp2_with fail
        go_at_call 94
        refine (kd _).mono ?_
        rintro e w' ⟨rfl, rfl⟩
        go_wp2_with fail
        go_loopg [7] (l.length - (a + 1)) (fun k iv wr => ∃ j : Nat, iv = .int .i64 (j : Int) ∧ a + 1 ≤ j ∧ j ≤ l.length ∧ j + run dgt (l.drop j) = bb ∧ k = l.length - j ∧ wr = ((w.alloc (.cells #[.int .i64 0, .string ⟨#[]⟩, .int .i64 0, .int .u64 0, .int .i64 0] 92 (0, 0))).alloc (.cells #[.int .i64 3, .string ⟨#[]⟩, .int .i64 0, .int .u64 0, .int .i64 (i : Int)] 92 (0, 0))))
        case atStart => exact ⟨a + 1, by first | rfl | go_num, by omega, by omega, hrun2, rfl, rfl⟩
        case round =>
          obtain ⟨j, rfl, hsj, hj, hf, hgk, rfl⟩ := hrel
          have hgkH : Hidden (gk = l.length - j) := hgk
          clear hgk
          have next : ∀ c, l[j]? = some c → dgt c = true → j + 1 + run dgt (l.drop (j + 1)) = bb := fun c hc hp => by rw [run_step _ l j c hc, if_pos hp] at hf; omega
          by_cases hgo : ∃ c, l[j]? = some c ∧ dgt c = true
          · obtain ⟨c, hc, hp⟩ := hgo
            have hjl : j < l.length := (List.getElem?_eq_some_iff.1 hc).1
            have hxj := str_index l j c hc
            have kc := rdigit_walk c.toNat _ rfl
            rw [(class_nat c).2.1, hp] at kc
            have hfH : Hidden (j + 1 + run dgt (l.drop (j + 1)) = bb) := next c hc hp
            clear hf next hc hp
            go_wp2_with (go_at_call 94; refine (kc _).mono ?_; rintro e w' ⟨rfl, rfl⟩)
            go_roundg (l.length - (j + 1))
            case measure =>
              have : gk = l.length - j := hgkH
              omega
            case rel => exact ⟨j + 1, by go_num, by omega, by omega, hfH, rfl, rfl⟩
          · have hja : j = bb := by
              have hz : run dgt (l.drop j) = 0 := by
                rw [run_zero]
                intro c hc
                rw [drop_zero_get] at hc
                cases hpc : dgt c
                · rfl
                · exact absurd ⟨c, hc, hpc⟩ hgo
              omega
            have stop : (¬ j < l.length) ∨ ∃ n : Nat, j < l.length ∧ (∀ w, (Instr.index 9 (.string ⟨l.toArray⟩) (.int .i64 (j : Int))).run Tryz.prog w = .ok (.int .u8 (n : Int)) w) ∧ (∀ w, Calls Tryz.prog 94 #[.int .u8 (n : Int)] w fun e w' => e = .returned (.bool false) ∧ w' = w) := by
              by_cases hjl : j < l.length
              · obtain ⟨c, hc⟩ : ∃ c, l[j]? = some c := ⟨l[j], List.getElem?_eq_getElem hjl⟩
                have kc := rdigit_walk c.toNat _ rfl
                have hpc : dgt c = false := by
                  cases hpc : dgt c
                  · rfl
                  · exact absurd ⟨c, hc, hpc⟩ hgo
                rw [(class_nat c).2.1, hpc] at kc
                exact Or.inr ⟨c.toNat, hjl, str_index l j c hc, kc⟩
              · exact Or.inl hjl
            clear hf next hgo
            subst hja
            rcases stop with hjl | ⟨n, hjl, hxj, kc⟩
            all_goals
              go_wp2_with (first
                | (go_at_call 94; refine (kc _).mono ?_; rintro e w' ⟨rfl, rfl⟩)
                | (go_at_call 143; refine (kp _).mono ?_; rintro e1 W1 ⟨rfl, g1⟩; have f1 := fr_of_kept g1.1 g1.2
                   have ha : Hidden (W1.heap[w.heap.size]? = some (.cells #[.int .i64 0, .string ⟨#[]⟩, .int .i64 0, .int .u64 0, .int .i64 0] 92 (0, 0))) := f1.heap (heap_alloc2_old _ _ _) (fun f => f)
                   have hb : Hidden (W1.heap[w.heap.size + 1]? = some (.cells #[.int .i64 4, .string ⟨x.toArray⟩, .int .i64 0, .int .u64 0, .int .i64 (i : Int)] 92 (0, 0))) := f1.heap (heap_alloc2_new _ _ _) (fun f => f)
                   have ca0 : W1.cell? ⟨w.heap.size, 0, none⟩ = some (.int .i64 0) := cell_of_row _ _ 0 _ _ _ ha
                   have fa0 := frozen_row ha 0
                   have ca1 : W1.cell? ⟨w.heap.size, 1, none⟩ = some (.string ⟨#[]⟩) := cell_of_row _ _ 1 _ _ _ ha
                   have fa1 := frozen_row ha 1
                   have ca2 : W1.cell? ⟨w.heap.size, 2, none⟩ = some (.int .i64 0) := cell_of_row _ _ 2 _ _ _ ha
                   have fa2 := frozen_row ha 2
                   have ca3 : W1.cell? ⟨w.heap.size, 3, none⟩ = some (.int .u64 0) := cell_of_row _ _ 3 _ _ _ ha
                   have fa3 := frozen_row ha 3
                   have ca4 : W1.cell? ⟨w.heap.size, 4, none⟩ = some (.int .i64 0) := cell_of_row _ _ 4 _ _ _ ha
                   have fa4 := frozen_row ha 4
                   have cb0 : W1.cell? ⟨w.heap.size + 1, 0, none⟩ = some (.int .i64 4) := cell_of_row _ _ 0 _ _ _ hb
                   have fb0 := frozen_row hb 0
                   have cb1 : W1.cell? ⟨w.heap.size + 1, 1, none⟩ = some (.string ⟨x.toArray⟩) := cell_of_row _ _ 1 _ _ _ hb
                   have fb1 := frozen_row hb 1
                   have cb2 : W1.cell? ⟨w.heap.size + 1, 2, none⟩ = some (.int .i64 0) := cell_of_row _ _ 2 _ _ _ hb
                   have fb2 := frozen_row hb 2
                   have cb3 : W1.cell? ⟨w.heap.size + 1, 3, none⟩ = some (.int .u64 0) := cell_of_row _ _ 3 _ _ _ hb
                   have fb3 := frozen_row hb 3
                   have cb4 : W1.cell? ⟨w.heap.size + 1, 4, none⟩ = some (.int .i64 (i : Int)) := cell_of_row _ _ 4 _ _ _ hb
                   have fb4 := frozen_row hb 4
                   skip))
              (try simp only [Exit.inBlock, Exit.then])
              have ha2 : ((W1.setCell ⟨w.heap.size + 1, 2, none⟩ (.int .i64 2)).setCell ⟨w.heap.size + 1, 3, none⟩ (.int .u64 v)).heap[w.heap.size]? = some (.cells #[.int .i64 0, .string ⟨#[]⟩, .int .i64 0, .int .u64 0, .int .i64 0] 92 (0, 0)) := by
                rw [heap_setCell_other _ _ _ _ (by show w.heap.size ≠ w.heap.size + 1; omega), heap_setCell_other _ _ _ _ (by show w.heap.size ≠ w.heap.size + 1; omega)]
                exact ha
              refine post_rtok ha2 rfl rfl rfl ⟨rfl, ?_⟩
              exact fr_five (fr_two (((Fr.alloc (fun _ => False) w _).same (Fr.alloc _ _ _)).same f1) (by omega) 2 3 _ _) (Nat.le_refl _) _ _ _ _ _

end Go.Proofs.YteijjaabngkbjaaGreatDoor
