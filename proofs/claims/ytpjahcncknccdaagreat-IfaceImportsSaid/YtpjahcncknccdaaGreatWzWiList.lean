/- What a Reader takes: lists. -/
import Derived.Test.YtpjahcncknccdaaGreatWzWiT2
import Derived.OwnWalk
namespace Go.Proofs.YtpjahcncknccdaaGreat.Wi
open Go.RowKit
set_option linter.unusedSimpArgs false
set_option linter.unusedVariables false
set_option maxRecDepth 20000

theorem fold_be (n : Nat) : ∀ k a : Nat, (beS n k).foldl (fun n c => n * 256 + c.toNat) a = a * 256 ^ k + n % 256 ^ k := by
  intro k
  induction k with
  | zero => intro a; simp [beS, Nat.mod_one]
  | succ k ih =>
    intro a
    rw [beS, List.foldl_cons, ih]
    have e : (UInt8.ofNat (n / 2 ^ (8 * k))).toNat = n / 256 ^ k % 256 := by
      rw [UInt8.toNat_ofNat', Nat.pow_mul]
    have h2 : n % 256 ^ (k + 1) = n % 256 ^ k + 256 ^ k * (n / 256 ^ k % 256) := by
      rw [Nat.pow_succ]
      exact Nat.mod_mul
    rw [e, h2, Nat.pow_succ, Nat.add_mul, Nat.mul_assoc, Nat.mul_comm 256 (256 ^ k), Nat.mul_comm (n / 256 ^ k % 256)]
    omega
theorem num_be (n k : Nat) : numS (beS n k) = n % 256 ^ k := by
  have := fold_be n k 0
  simpa [numS] using this
theorem num_i31 (x : Int) : numS (i31 x) = u64 x % 2147483648 := by
  rw [i31, num_be]
  have : u64 x % 2147483648 < 2147483648 := Nat.mod_lt _ (by omega)
  exact Nat.mod_eq_of_lt (by omega)
theorem num_len (n : Nat) (h : n < 2147483648) : numS (i31 (n : Int)) = n := by
  rw [num_i31]
  unfold u64
  omega

theorem Rd.lt {w : World} {q : Nat} {rest : List UInt8} {e : Int} (h : Rd w q rest e) : q < w.heap.size := by
  obtain ⟨v, h, _⟩ := h
  exact lt_of_heap h
/-- A new list that was read. -/
def NewL (B : Nat) (vs : List Value) : Value → World → Prop := fun v w => ∃ ao cap, v = .slice ao vs.length cap ∧ vs.length ≤ cap ∧ cap ≤ maxLen ∧ Sl w v vs ∧ ∀ k, v.ownBlock = some k → B ≤ k
theorem Rd.aside {w w' : World} {q : Nat} {rest : List UInt8} {e : Int} {S : Nat → Prop} (h : Rd w q rest e) (hf : Fr S w w') (hS : ∀ k, S k → q < k) : Rd w' q rest e :=
  let ⟨v, h1, h2, h3⟩ := h
  ⟨v, hf.heap h1 (fun s => by have := hS q s; omega), h2.keep hf (fun k hk s => by have := hS k s; have := h3 k hk; omega), h3⟩

theorem own_keep {S : Nat → Prop} {w w' : World} {B : Nat} {e : TypeId} {v : Value} {n : Nat} {xs : List Value} (h : w.ownsRow B e 1 v n xs) (hf : Fr S w w') (hS : ∀ k, B ≤ k → ¬ S k) : w'.ownsRow B e 1 v n xs := by
  refine ⟨h.1, ?_⟩
  rcases h.2 with hn | ⟨g, cap, cur, rfl, hb, hg, rest⟩
  · exact Or.inl hn
  · exact Or.inr ⟨g, cap, cur, rfl, hb, hf.heap hg (hS g hb), rest⟩
theorem cut_cases {D z a R : List UInt8} (h : D ++ z = a ++ R) (hz : z ≠ []) : (∃ D', D = a ++ D' ∧ D' ++ z = R) ∨ ∃ z', D ++ z' = a ∧ z' ≠ [] := by
  rcases List.append_eq_append_iff.1 h with ⟨c, h1, h2⟩ | ⟨c, h1, h2⟩
  · by_cases hc : c = []
    · subst hc
      left
      exact ⟨[], by simpa using h1.symm, by simpa using h2⟩
    · right
      exact ⟨c, h1.symm, hc⟩
  · left
    exact ⟨c, h1, h2.symm⟩

theorem Tryz.info_int : (Tryz.prog.info? 3).map (fun i => (i.zero, i.size, i.bytes)) = some (some (.int .i64 0), 1, 8) := by kernel_rfl

set_option maxHeartbeats 1000000 in
theorem list_int_in (W : World) (q : Nat) (l : List Int) (len : Nat) (hlen : Hidden (l.length = len)) (most : Int) (more : List UInt8) (hr : Rd W q (i31 (len : Int) ++ ((l.map i31).flatten ++ more)) 0) (h31 : len < 2147483648) (hm : (len : Int) ≤ most)
    (kone : Hidden (∀ (x : Int) (mr : List UInt8) (w1 : World), x ∈ l → Fr (fun k => k = q) W w1 → Rd w1 q (i31 x ++ mr) 0 → Calls Tryz.prog 83 #[rp q] w1 (Took q w1 (Is ((fun x : Int => Value.int .i64 ((u64 x % 2147483648 : Nat) : Int)) x)) mr))) :
    Calls Tryz.prog 105 #[rp q, .int .i64 most, .func (.func 83) #[rp q] #[]] W (Took q W (NewL W.heap.size (l.map (fun x : Int => Value.int .i64 ((u64 x % 2147483648 : Nat) : Int)))) more) := by
  obtain ⟨i0, hi, hz0, hz1, hz2⟩ := info_parts Tryz.info_int
  have hq := hr.lt
  have kc := takeCount_in q _ len most W (by simp) (show numS ((i31 (len : Int) ++ ((l.map i31).flatten ++ more)).take 4) = len by rw [List.take_append_of_le_length (by simp), List.take_of_length_le (by simp)]; exact num_len len h31) h31 hm hr
  rw [show (i31 (len : Int) ++ ((l.map i31).flatten ++ more)).drop 4 = (l.map i31).flatten ++ more by rw [List.drop_append_of_le_length (by simp), List.drop_of_length_le (by simp)]; rfl] at kc
  have kcell : Hidden (∀ w1, Rd w1 q ((l.map i31).flatten ++ more) 0 → ∃ ao cap L, w1.cell? ⟨q, 0, none⟩ = some (.slice ao L cap) ∧ L ≤ 9223372036854775807) := fun w1 h => by
    obtain ⟨ao, cap, h1, _, _, _, h2, h3⟩ := h.cells
    exact ⟨ao, cap, _, h1, by omega⟩
  unfold Took Is at kc
  clear hr
  go_enter Tryz.func105, Tryz.ntmps105
  go_upto_region 2 with (go_at_call 81; refine kc.mono ?_; rintro e w1 ⟨⟨v, rfl, rfl⟩, h1, h2⟩; obtain ⟨ao, cap, L, hc, hL⟩ := kcell w1 h1; have hs1 := h2.size)
  go_cut [8] (fun lv wx => wx.ownsRow W.heap.size 3 1 lv 0 [] ∧ Rd wx q ((l.map i31).flatten ++ more) 0 ∧ Fr (fun k => k = q) W wx)
  case first =>
    have hH : Hidden (∀ w2 lv, w2.ownsRow W.heap.size 3 1 lv 0 [] → w1.grownBy w2 none → w2.ownsRow W.heap.size 3 1 lv 0 [] ∧ Rd w2 q ((l.map i31).flatten ++ more) 0 ∧ Fr (fun k => k = q) W w2) :=
      fun w2 lv hown hg => ⟨hown, h1.aside (Fr.grown hg) (fun k hk => by cases hk), h2.same ((Fr.grown hg).mono (fun k _ hk => by cases hk))⟩
    clear h1 h2 kc kcell
    go_wp2_with (at_make; refine wpList_make_own _ rfl _ _ 57 rfl W.heap.size 3 i0 (.int .i64 0) 1 Tryz.underlying57 hi hz0 hz1 .i64 .i64 _ (min len (L / 4)) rfl rfl (by split <;> omega) (by rw [hz2]; omega) (by unfold maxLen; omega) (by omega) ?_)
    all_goals
      intro w2 hown hg
      have hh : Hidden (w2.ownsRow W.heap.size 3 1 _ 0 [] ∧ Rd w2 q ((l.map i31).flatten ++ more) 0 ∧ Fr (fun k => k = q) W w2) := hH w2 _ hown hg
      clear hown hg hH
      go_wp2
      go_meet
      exact hh
  case rest =>
  have hH : Hidden (wc.ownsRow W.heap.size 3 1 u8 0 [] ∧ Rd wc q ((l.map i31).flatten ++ more) 0 ∧ Fr (fun k => k = q) W wc) := hcut
  clear hcut h1 h2 hc kc kcell hs1 hL
  go_wp2
  go_loopg [8, 22] len (fun k lv iv wr => ∃ j : Nat, iv = .int .i64 (j : Int) ∧ j ≤ len ∧ k = len - j ∧ wr.ownsRow W.heap.size 3 1 lv j ((l.take j).map (fun x : Int => Value.int .i64 ((u64 x % 2147483648 : Nat) : Int))) ∧ Rd wr q (((l.drop j).map i31).flatten ++ more) 0 ∧ Fr (fun k => k = q) W wr)
  case atStart => exact ⟨0, rfl, by omega, rfl, hH⟩
  case round =>
    obtain ⟨j, rfl, hj, hk, hrest⟩ := hrel
    have hkH : Hidden (gk = len - j) := hk
    have hlen' : l.length = len := hlen
    have hrH : Hidden (wr.ownsRow W.heap.size 3 1 u8 j ((l.take j).map (fun x : Int => Value.int .i64 ((u64 x % 2147483648 : Nat) : Int))) ∧ Rd wr q (((l.drop j).map i31).flatten ++ more) 0 ∧ Fr (fun k => k = q) W wr) := hrest
    clear hk hrest hH
    by_cases hjl : j < len
    · obtain ⟨x, hx⟩ : ∃ x, l[j]? = some x := ⟨l[j], List.getElem?_eq_getElem (by omega)⟩
      have hrd : Rd wr q (i31 x ++ (((l.drop (j + 1)).map i31).flatten ++ more)) 0 := by
        have := hrH.2.1
        rw [drop_now hx] at this
        simpa using this
      have k1 := (show ∀ (x : Int) (mr : List UInt8) (w1 : World), x ∈ l → Fr (fun k => k = q) W w1 → Rd w1 q (i31 x ++ mr) 0 → Calls Tryz.prog 83 #[rp q] w1 (Took q w1 (Is ((fun x : Int => Value.int .i64 ((u64 x % 2147483648 : Nat) : Int)) x)) mr) from kone) x _ wr (List.mem_of_getElem? hx) hrH.2.2 hrd
      have htk : Hidden ((l.take (j + 1)).map (fun x : Int => Value.int .i64 ((u64 x % 2147483648 : Nat) : Int)) = (l.take j).map (fun x : Int => Value.int .i64 ((u64 x % 2147483648 : Nat) : Int)) ++ [(fun x : Int => Value.int .i64 ((u64 x % 2147483648 : Nat) : Int)) x]) := by
        show (l.take (j + 1)).map (fun x : Int => Value.int .i64 ((u64 x % 2147483648 : Nat) : Int)) = (l.take j).map (fun x : Int => Value.int .i64 ((u64 x % 2147483648 : Nat) : Int)) ++ [(fun x : Int => Value.int .i64 ((u64 x % 2147483648 : Nat) : Int)) x]
        rw [take_next hx]; simp
      have hsz := hrH.2.2.size
      unfold Took Is at k1
      skip
      clear hx hrd hlen'
      go_wp2_with (first
        | (go_at_call 83; refine k1.mono ?_; rintro e w3 ⟨⟨v, rfl, rfl⟩, h3, h4⟩; have hs3 := h4.size)
        | (at_builtin; refine wpList_append_own _ rfl _ _ 57 rfl W.heap.size 3 i0 (.int .i64 0) 1 8 Tryz.underlying57 hi hz0 hz1 hz2 rfl (by decide) _ j ((l.take j).map (fun x : Int => Value.int .i64 ((u64 x % 2147483648 : Nat) : Int))) rfl ?q0 ⟨w3.heap.size, 0, none⟩ 1 1 [.int .i64 ((u64 x % 2147483648 : Nat) : Int)] rfl rfl ?q1 ?q2 ?q3 ?q4 ?q5 ?_))
      case q0 => exact (own_keep hrH.1 h4 (fun k hk e => by omega)).alloc _
      case q1 => exact cell_one_new w3 _ _
      case q2 => intro u hu; simp at hu; subst hu; rfl
      case q3 => unfold maxLen; omega
      case q4 => omega
      case q5 => simp; omega
      intro v' w4 hown4 hg4 _
      have hfin : Hidden (w4.ownsRow W.heap.size 3 1 v' (j + 1) ((l.take (j + 1)).map (fun x : Int => Value.int .i64 ((u64 x % 2147483648 : Nat) : Int))) ∧ Rd w4 q (((l.drop (j + 1)).map i31).flatten ++ more) 0 ∧ Fr (fun k => k = q) W w4) := by
        have hrow : ∀ k, some k = u8.ownBlock → W.heap.size ≤ k := fun k hk => (hrH.1.lt k hk.symm).1
        refine ⟨?_, ?_, ?_⟩
        · rw [show (l.take (j + 1)).map (fun x : Int => Value.int .i64 ((u64 x % 2147483648 : Nat) : Int)) = _ from htk]; simpa [List.map_take] using hown4
        · exact (h3.keep (Fr.alloc (fun _ => False) w3 _) (fun f => f) (fun _ _ _ _ f => f)).aside (Fr.grown hg4) (fun k hk => by have := hrow k hk; omega)
        · refine (hrH.2.2.same (h4.same (Fr.alloc _ w3 _))).trans (Fr.grown hg4) (fun k hk h => ?_)
          have := hrow k h
          omega
      clear hown4 hg4 h3 h4
      go_wp2
      go_roundg (len - (j + 1))
      case measure =>
        have : gk = len - j := hkH
        omega
      case rel => exact ⟨j + 1, by go_num, by omega, rfl, hfin⟩
    · obtain rfl : j = len := by omega
      have hfin : Hidden (NewL W.heap.size (l.map (fun x : Int => Value.int .i64 ((u64 x % 2147483648 : Nat) : Int))) u8 wr ∧ Rd wr q more 0 ∧ Fr (fun k => k = q) W wr) := by
        obtain ⟨a, b, c⟩ := hrH
        rw [← hlen', List.take_length] at a
        rw [← hlen', List.drop_length] at b
        obtain ⟨hs, hn⟩ := Sl.of_own a
        have hlt := a.lt
        obtain ⟨ao', cap', e, b1, b2, b3⟩ := id hs
        exact ⟨⟨ao', cap', e, b1, b2, hs, fun k hk => (hlt k hk).1⟩, by simpa using b, c⟩
      clear hlen' hrH kone
      go_wp2
      go_ret
      exact ⟨⟨_, rfl, hfin.1⟩, hfin.2⟩
end Go.Proofs.YtpjahcncknccdaaGreat.Wi
