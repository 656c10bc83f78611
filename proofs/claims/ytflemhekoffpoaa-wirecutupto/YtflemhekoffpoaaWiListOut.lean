/- What a Reader takes: lists. -/
import Derived.Test.YtflemhekoffpoaaWiList
import Derived.OwnWalk
namespace Go.Proofs.Ytflemhekoffpoaa
open Go.RowKit
set_option linter.unusedSimpArgs false
set_option linter.unusedVariables false


set_option maxHeartbeats 1000000 in
theorem list_int_out (W : World) (q : Nat) (l : List Int) (len : Nat) (hlen : Hidden (l.length = len)) (most : Int) (D z : List UInt8) (hz : Hidden (z ≠ [])) (hD : Hidden (D ++ z = (l.map i31).flatten)) (hr : Rd W q (i31 (len : Int) ++ D) 0) (h31 : len < 2147483648) (hm : (len : Int) ≤ most)
    (kone : Hidden (∀ (x : Int) (mr : List UInt8) (w1 : World), x ∈ l → Fr (fun k => k = q) W w1 → Rd w1 q (i31 x ++ mr) 0 → Calls Try.prog 73 #[rp q] w1 (Took q w1 (Is ((fun x : Int => Value.int .i64 ((u64 x % 2147483648 : Nat) : Int)) x)) mr)))
    (kout : Hidden (∀ (x : Int) (D' z' : List UInt8) (w1 : World), x ∈ l → Fr (fun k => k = q) W w1 → D' ++ z' = i31 x → z' ≠ [] → Rd w1 q D' 0 → Calls Try.prog 73 #[rp q] w1 (Gave q w1 40))) :
    Calls Try.prog 83 #[rp q, .int .i64 most, .func (.func 73) #[rp q] #[]] W (Gave q W 40) := by
  obtain ⟨i0, hi, hz0, hz1, hz2⟩ := info_parts Try.info_int
  have hq := hr.lt
  have kc := takeCount_in q _ len most W (by simp) (show numS ((i31 (len : Int) ++ D).take 4) = len by rw [List.take_append_of_le_length (by simp), List.take_of_length_le (by simp)]; exact num_len len h31) h31 hm hr
  rw [show (i31 (len : Int) ++ D).drop 4 = D by rw [List.drop_append_of_le_length (by simp), List.drop_of_length_le (by simp)]; rfl] at kc
  have kcell : Hidden (∀ w1, Rd w1 q D 0 → ∃ ao cap L, w1.cell? ⟨q, 0, none⟩ = some (.slice ao L cap) ∧ L ≤ 9223372036854775807) := fun w1 h => by
    obtain ⟨ao, cap, h1, _, _, _, h2, h3⟩ := h.cells
    exact ⟨ao, cap, _, h1, by omega⟩
  unfold Took Is at kc
  clear hr
  unfold Gave
  go_enter Try.func83, Try.ntmps83
  go_upto_region 2 with (go_at_call 95; refine kc.mono ?_; rintro e w1 ⟨⟨v, rfl, rfl⟩, h1, h2⟩; obtain ⟨ao, cap, L, hc, hL⟩ := kcell w1 h1; have hs1 := h2.size)
  go_cut [8] (fun lv wx => wx.ownsRow W.heap.size 3 1 lv 0 [] ∧ Rd wx q D 0 ∧ Fr (fun k => k = q) W wx)
  case first =>
    have hH : Hidden (∀ w2 lv, w2.ownsRow W.heap.size 3 1 lv 0 [] → w1.grownBy w2 none → w2.ownsRow W.heap.size 3 1 lv 0 [] ∧ Rd w2 q D 0 ∧ Fr (fun k => k = q) W w2) :=
      fun w2 lv hown hg => ⟨hown, h1.aside (Fr.grown hg) (fun k hk => by cases hk), h2.same ((Fr.grown hg).mono (fun k _ hk => by cases hk))⟩
    clear h1 h2 kc kcell
    go_wp2_with (at_make; refine wpList_make_own _ rfl _ _ 29 rfl W.heap.size 3 i0 (.int .i64 0) 1 Try.underlying29 hi hz0 hz1 .i64 .i64 _ (min len (L / 4)) rfl rfl (by split <;> omega) (by rw [hz2]; omega) (by unfold maxLen; omega) (by omega) ?_)
    all_goals
      intro w2 hown hg
      have hh : Hidden (w2.ownsRow W.heap.size 3 1 _ 0 [] ∧ Rd w2 q D 0 ∧ Fr (fun k => k = q) W w2) := hH w2 _ hown hg
      clear hown hg hH
      go_wp2
      go_meet
      exact hh
  case rest =>
  have hH : Hidden (wc.ownsRow W.heap.size 3 1 u8 0 [] ∧ Rd wc q D 0 ∧ Fr (fun k => k = q) W wc) := hcut
  clear hcut h1 h2 hc kc kcell hs1 hL
  go_wp2
  go_loopg [8, 22] len (fun k lv iv wr => ∃ (j : Nat) (D' : List UInt8), iv = .int .i64 (j : Int) ∧ j ≤ len ∧ k = len - j ∧ D' ++ z = ((l.drop j).map i31).flatten ∧ wr.ownsRow W.heap.size 3 1 lv j ((l.take j).map (fun x : Int => Value.int .i64 ((u64 x % 2147483648 : Nat) : Int))) ∧ Rd wr q D' 0 ∧ Fr (fun k => k = q) W wr)
  case atStart => exact ⟨0, D, rfl, by omega, rfl, hD, hH⟩
  case round =>
    obtain ⟨j, D', rfl, hj, hk, hDz, hrest⟩ := hrel
    have hkH : Hidden (gk = len - j) := hk
    have hlen' : l.length = len := hlen
    have hrH : Hidden (wr.ownsRow W.heap.size 3 1 u8 j ((l.take j).map (fun x : Int => Value.int .i64 ((u64 x % 2147483648 : Nat) : Int))) ∧ Rd wr q D' 0 ∧ Fr (fun k => k = q) W wr) := hrest
    clear hk hrest hH
    by_cases hjl : j < len
    · obtain ⟨x, hx⟩ : ∃ x, l[j]? = some x := ⟨l[j], List.getElem?_eq_getElem (by omega)⟩
      have hDx : D' ++ z = i31 x ++ ((l.drop (j + 1)).map i31).flatten := by
        rw [drop_now hx] at hDz
        simpa using hDz
      rcases (cut_cases hDx hz).symm with ⟨z', hz1, hz2⟩ | ⟨D2, rfl, hD2⟩
      · have k2 := (show ∀ (x : Int) (D' z' : List UInt8) (w1 : World), x ∈ l → Fr (fun k => k = q) W w1 → D' ++ z' = i31 x → z' ≠ [] → Rd w1 q D' 0 → Calls Try.prog 73 #[rp q] w1 (Gave q w1 40) from kout) x D' z' wr (List.mem_of_getElem? hx) hrH.2.2 hz1 hz2 hrH.2.1
        unfold Gave giveUp at k2
        clear hx hlen' hDz hDx hz1 hz2
        go_wp2_with (go_at_call 73; refine k2.mono ?_; rintro e w3 ⟨rfl, h3, h4⟩)
        exact ⟨rfl, rfl, h3, hrH.2.2.same h4⟩
      have hD2H : Hidden (D2 ++ z = ((l.drop (j + 1)).map i31).flatten) := hD2
      have k1 := (show ∀ (x : Int) (mr : List UInt8) (w1 : World), x ∈ l → Fr (fun k => k = q) W w1 → Rd w1 q (i31 x ++ mr) 0 → Calls Try.prog 73 #[rp q] w1 (Took q w1 (Is ((fun x : Int => Value.int .i64 ((u64 x % 2147483648 : Nat) : Int)) x)) mr) from kone) x _ wr (List.mem_of_getElem? hx) hrH.2.2 hrH.2.1
      have htk : Hidden ((l.take (j + 1)).map (fun x : Int => Value.int .i64 ((u64 x % 2147483648 : Nat) : Int)) = (l.take j).map (fun x : Int => Value.int .i64 ((u64 x % 2147483648 : Nat) : Int)) ++ [(fun x : Int => Value.int .i64 ((u64 x % 2147483648 : Nat) : Int)) x]) := by
        show (l.take (j + 1)).map (fun x : Int => Value.int .i64 ((u64 x % 2147483648 : Nat) : Int)) = (l.take j).map (fun x : Int => Value.int .i64 ((u64 x % 2147483648 : Nat) : Int)) ++ [(fun x : Int => Value.int .i64 ((u64 x % 2147483648 : Nat) : Int)) x]
        rw [take_next hx]; simp
      have hsz := hrH.2.2.size
      unfold Took Is at k1
      skip
      clear hx hlen' hDz hDx hD2
      go_wp2_with (first
        | (go_at_call 73; refine k1.mono ?_; rintro e w3 ⟨⟨v, rfl, rfl⟩, h3, h4⟩; have hs3 := h4.size)
        | (at_builtin; refine wpList_append_own _ rfl _ _ 29 rfl W.heap.size 3 i0 (.int .i64 0) 1 8 Try.underlying29 hi hz0 hz1 hz2 rfl (by decide) _ j ((l.take j).map (fun x : Int => Value.int .i64 ((u64 x % 2147483648 : Nat) : Int))) rfl ?q0 ⟨w3.heap.size, 0, none⟩ 1 1 [.int .i64 ((u64 x % 2147483648 : Nat) : Int)] rfl rfl ?q1 ?q2 ?q3 ?q4 ?q5 ?_))
      case q0 => exact (own_keep hrH.1 h4 (fun k hk e => by omega)).alloc _
      case q1 => exact cell_one_new w3 _ _
      case q2 => intro u hu; simp at hu; subst hu; rfl
      case q3 => unfold maxLen; omega
      case q4 => omega
      case q5 => simp; omega
      intro v' w4 hown4 hg4 _
      have hfin : Hidden (w4.ownsRow W.heap.size 3 1 v' (j + 1) ((l.take (j + 1)).map (fun x : Int => Value.int .i64 ((u64 x % 2147483648 : Nat) : Int))) ∧ Rd w4 q D2 0 ∧ Fr (fun k => k = q) W w4) := by
        have hrow : ∀ k, some k = u8.ownBlock → W.heap.size ≤ k := fun k hk => (hrH.1.lt k hk.symm).1
        refine ⟨?_, ?_, ?_⟩
        · rw [show (l.take (j + 1)).map (fun x : Int => Value.int .i64 ((u64 x % 2147483648 : Nat) : Int)) = _ from htk]; simpa [List.map_take] using hown4
        · exact (h3.keep (Fr.alloc (fun _ => False) w3 _) (fun f => f) (fun _ _ _ _ f => f)).aside (Fr.grown hg4) (fun k hk => by have := hrow k hk; omega)
        · refine (hrH.2.2.same (h4.same (Fr.alloc _ w3 _))).trans (Fr.grown hg4) (fun k hk h => ?_)
          have := hrow k h
          omega
      clear hown4 hg4 h3 h4
      go_wp2
      go_roundg (len - (j + 1))
      case measure =>
        have : gk = len - j := hkH
        omega
      case rel => exact ⟨j + 1, D2, by go_num, by omega, rfl, hD2H, hfin⟩
    · obtain rfl : j = len := by omega
      rw [← hlen', List.drop_length] at hDz
      exact absurd (show D' = [] ∧ z = [] by simpa using hDz).2 hz

set_option maxHeartbeats 1000000 in
theorem list_str_out (W : World) (q : Nat) (p0 p1 : Value) (l : List (List UInt8)) (len : Nat) (hlen : Hidden (l.length = len)) (most : Int) (D z : List UInt8) (hz : Hidden (z ≠ [])) (hD : Hidden (D ++ z = (l.map rawS).flatten)) (hr : Rd W q (i31 (len : Int) ++ D) 0) (h31 : len < 2147483648) (hm : (len : Int) ≤ most)
    (kone : Hidden (∀ (x : (List UInt8)) (mr : List UInt8) (w1 : World), x ∈ l → Fr (fun k => k = q) W w1 → Rd w1 q (rawS x ++ mr) 0 → Calls Try.prog 84 #[p0, p1] w1 (Took q w1 (Is (sv x)) mr)))
    (kout : Hidden (∀ (x : (List UInt8)) (D' z' : List UInt8) (w1 : World), x ∈ l → Fr (fun k => k = q) W w1 → D' ++ z' = rawS x → z' ≠ [] → Rd w1 q D' 0 → Calls Try.prog 84 #[p0, p1] w1 (Gave q w1 40))) :
    Calls Try.prog 87 #[rp q, .int .i64 most, .func (.func 84) #[] #[p0, p1]] W (Gave q W 40) := by
  obtain ⟨i0, hi, hz0, hz1, hz2⟩ := info_parts Try.info_str
  have hq := hr.lt
  have kc := takeCount_in q _ len most W (by simp) (show numS ((i31 (len : Int) ++ D).take 4) = len by rw [List.take_append_of_le_length (by simp), List.take_of_length_le (by simp)]; exact num_len len h31) h31 hm hr
  rw [show (i31 (len : Int) ++ D).drop 4 = D by rw [List.drop_append_of_le_length (by simp), List.drop_of_length_le (by simp)]; rfl] at kc
  have kcell : Hidden (∀ w1, Rd w1 q D 0 → ∃ ao cap L, w1.cell? ⟨q, 0, none⟩ = some (.slice ao L cap) ∧ L ≤ 9223372036854775807) := fun w1 h => by
    obtain ⟨ao, cap, h1, _, _, _, h2, h3⟩ := h.cells
    exact ⟨ao, cap, _, h1, by omega⟩
  unfold Took Is at kc
  clear hr
  unfold Gave
  go_enter Try.func87, Try.ntmps87
  go_upto_region 2 with (go_at_call 95; refine kc.mono ?_; rintro e w1 ⟨⟨v, rfl, rfl⟩, h1, h2⟩; obtain ⟨ao, cap, L, hc, hL⟩ := kcell w1 h1; have hs1 := h2.size)
  go_cut [8] (fun lv wx => wx.ownsRow W.heap.size 9 1 lv 0 [] ∧ Rd wx q D 0 ∧ Fr (fun k => k = q) W wx)
  case first =>
    have hH : Hidden (∀ w2 lv, w2.ownsRow W.heap.size 9 1 lv 0 [] → w1.grownBy w2 none → w2.ownsRow W.heap.size 9 1 lv 0 [] ∧ Rd w2 q D 0 ∧ Fr (fun k => k = q) W w2) :=
      fun w2 lv hown hg => ⟨hown, h1.aside (Fr.grown hg) (fun k hk => by cases hk), h2.same ((Fr.grown hg).mono (fun k _ hk => by cases hk))⟩
    clear h1 h2 kc kcell
    go_wp2_with (at_make; refine wpList_make_own _ rfl _ _ 30 rfl W.heap.size 9 i0 (.string ⟨#[]⟩) 1 Try.underlying30 hi hz0 hz1 .i64 .i64 _ (min len (L / 4)) rfl rfl (by split <;> omega) (by rw [hz2]; omega) (by unfold maxLen; omega) (by omega) ?_)
    all_goals
      intro w2 hown hg
      have hh : Hidden (w2.ownsRow W.heap.size 9 1 _ 0 [] ∧ Rd w2 q D 0 ∧ Fr (fun k => k = q) W w2) := hH w2 _ hown hg
      clear hown hg hH
      go_wp2
      go_meet
      exact hh
  case rest =>
  have hH : Hidden (wc.ownsRow W.heap.size 9 1 u8 0 [] ∧ Rd wc q D 0 ∧ Fr (fun k => k = q) W wc) := hcut
  clear hcut h1 h2 hc kc kcell hs1 hL
  go_wp2
  go_loopg [8, 22] len (fun k lv iv wr => ∃ (j : Nat) (D' : List UInt8), iv = .int .i64 (j : Int) ∧ j ≤ len ∧ k = len - j ∧ D' ++ z = ((l.drop j).map rawS).flatten ∧ wr.ownsRow W.heap.size 9 1 lv j ((l.take j).map sv) ∧ Rd wr q D' 0 ∧ Fr (fun k => k = q) W wr)
  case atStart => exact ⟨0, D, rfl, by omega, rfl, hD, hH⟩
  case round =>
    obtain ⟨j, D', rfl, hj, hk, hDz, hrest⟩ := hrel
    have hkH : Hidden (gk = len - j) := hk
    have hlen' : l.length = len := hlen
    have hrH : Hidden (wr.ownsRow W.heap.size 9 1 u8 j ((l.take j).map sv) ∧ Rd wr q D' 0 ∧ Fr (fun k => k = q) W wr) := hrest
    clear hk hrest hH
    by_cases hjl : j < len
    · obtain ⟨x, hx⟩ : ∃ x, l[j]? = some x := ⟨l[j], List.getElem?_eq_getElem (by omega)⟩
      have hDx : D' ++ z = rawS x ++ ((l.drop (j + 1)).map rawS).flatten := by
        rw [drop_now hx] at hDz
        simpa using hDz
      rcases (cut_cases hDx hz).symm with ⟨z', hz1, hz2⟩ | ⟨D2, rfl, hD2⟩
      · have k2 := (show ∀ (x : (List UInt8)) (D' z' : List UInt8) (w1 : World), x ∈ l → Fr (fun k => k = q) W w1 → D' ++ z' = rawS x → z' ≠ [] → Rd w1 q D' 0 → Calls Try.prog 84 #[p0, p1] w1 (Gave q w1 40) from kout) x D' z' wr (List.mem_of_getElem? hx) hrH.2.2 hz1 hz2 hrH.2.1
        unfold Gave giveUp at k2
        clear hx hlen' hDz hDx hz1 hz2
        go_wp2_with (go_at_call 84; refine k2.mono ?_; rintro e w3 ⟨rfl, h3, h4⟩)
        exact ⟨rfl, rfl, h3, hrH.2.2.same h4⟩
      have hD2H : Hidden (D2 ++ z = ((l.drop (j + 1)).map rawS).flatten) := hD2
      have k1 := (show ∀ (x : (List UInt8)) (mr : List UInt8) (w1 : World), x ∈ l → Fr (fun k => k = q) W w1 → Rd w1 q (rawS x ++ mr) 0 → Calls Try.prog 84 #[p0, p1] w1 (Took q w1 (Is (sv x)) mr) from kone) x _ wr (List.mem_of_getElem? hx) hrH.2.2 hrH.2.1
      have htk : Hidden ((l.take (j + 1)).map sv = (l.take j).map sv ++ [sv x]) := by
        show (l.take (j + 1)).map sv = (l.take j).map sv ++ [sv x]
        rw [take_next hx]; simp
      have hsz := hrH.2.2.size
      unfold Took Is at k1
      unfold sv at k1
      clear hx hlen' hDz hDx hD2
      go_wp2_with (first
        | (go_at_call 84; refine k1.mono ?_; rintro e w3 ⟨⟨v, rfl, rfl⟩, h3, h4⟩; have hs3 := h4.size)
        | (at_builtin; refine wpList_append_own _ rfl _ _ 30 rfl W.heap.size 9 i0 (.string ⟨#[]⟩) 1 16 Try.underlying30 hi hz0 hz1 hz2 rfl (by decide) _ j ((l.take j).map sv) rfl ?q0 ⟨w3.heap.size, 0, none⟩ 1 1 [.string ⟨x.toArray⟩] rfl rfl ?q1 ?q2 ?q3 ?q4 ?q5 ?_))
      case q0 => exact (own_keep hrH.1 h4 (fun k hk e => by omega)).alloc _
      case q1 => exact cell_one_new w3 _ _
      case q2 => intro u hu; simp at hu; subst hu; rfl
      case q3 => unfold maxLen; omega
      case q4 => omega
      case q5 => simp; omega
      intro v' w4 hown4 hg4 _
      have hfin : Hidden (w4.ownsRow W.heap.size 9 1 v' (j + 1) ((l.take (j + 1)).map sv) ∧ Rd w4 q D2 0 ∧ Fr (fun k => k = q) W w4) := by
        have hrow : ∀ k, some k = u8.ownBlock → W.heap.size ≤ k := fun k hk => (hrH.1.lt k hk.symm).1
        refine ⟨?_, ?_, ?_⟩
        · rw [show (l.take (j + 1)).map sv = _ from htk]; simpa [List.map_take, sv] using hown4
        · exact (h3.keep (Fr.alloc (fun _ => False) w3 _) (fun f => f) (fun _ _ _ _ f => f)).aside (Fr.grown hg4) (fun k hk => by have := hrow k hk; omega)
        · refine (hrH.2.2.same (h4.same (Fr.alloc _ w3 _))).trans (Fr.grown hg4) (fun k hk h => ?_)
          have := hrow k h
          omega
      clear hown4 hg4 h3 h4
      go_wp2
      go_roundg (len - (j + 1))
      case measure =>
        have : gk = len - j := hkH
        omega
      case rel => exact ⟨j + 1, D2, by go_num, by omega, rfl, hD2H, hfin⟩
    · obtain rfl : j = len := by omega
      rw [← hlen', List.drop_length] at hDz
      exact absurd (show D' = [] ∧ z = [] by simpa using hDz).2 hz
end Go.Proofs.Ytflemhekoffpoaa
