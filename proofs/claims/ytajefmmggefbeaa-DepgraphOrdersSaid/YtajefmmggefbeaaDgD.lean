/- slices.DeleteFunc, of a predicate that leaves all but the row as it was. -/
import Derived.Test.YtajefmmggefbeaaDgI
import Derived.Lib.SliceRun
namespace Go.Proofs.Ytajefmmggefbeaa.Dg
open Go.RowKit Go.Sort
set_option linter.unusedSimpArgs false
set_option linter.unusedVariables false

/-- The cells of a row, as they may be read and written. -/
def Cs (w : World) (b off : Nat) (d : List Str) : Prop := ∀ (k : Nat) (x : Str), d[k]? = some x → w.cell? ⟨b, off + k, none⟩ = some (ct x) ∧ w.frozen? ⟨b, off + k, none⟩ = false
theorem Cs.keep {S : Nat → Prop} {w w' : World} {b off : Nat} {d : List Str} (h : Cs w b off d) (hf : Fr S w w') (hn : ¬ S b) (hb : b < w.heap.size) : Cs w' b off d := by
  intro k x hx
  have e := hf.block b hb hn
  rw [World.cell?_of_block (a := ⟨b, off + k, none⟩) e, World.frozen?_of_block (a := ⟨b, off + k, none⟩) e]
  exact h k x hx
theorem Tn.cs {w : World} {B b off n cap : Nat} {l : List Str} (h : Tn w B (.slice (some ⟨b, off, none⟩) n cap) l) : Cs w b off l ∧ (l ≠ [] → B ≤ b ∧ b < w.heap.size) := by
  obtain ⟨ao, cap', e, h1, h2, h3, h4⟩ := h
  cases e
  rcases h4 with rfl | ⟨b', off', e, hB, hb, hH⟩
  · exact ⟨fun k x hx => by simp at hx, fun h => absurd rfl h⟩
  · simp only [Option.some.injEq, Addr.mk.injEq, and_true] at e
    obtain ⟨rfl, rfl⟩ := e
    refine ⟨fun k x hx => ?_, fun _ => ⟨hB, hb⟩⟩
    obtain ⟨hk, e⟩ := List.getElem?_eq_some_iff.1 hx
    have := hH k (by simpa using hk)
    rw [getElem!_pos _ k (by simpa using hk)] at this
    simp only [List.getElem_toArray, e] at this
    exact this
theorem Cs.tn {w : World} {B b off n cap : Nat} {l : List Str} (h : Cs w b off l) (hl : l.length = n) (h1 : n ≤ cap) (h2 : cap ≤ 9223372036854775807) (hB : B ≤ b) (hb : b < w.heap.size) : Tn w B (.slice (some ⟨b, off, none⟩) n cap) l := by
  subst hl
  refine ⟨_, cap, rfl, h1, h2, (fun h => by cases h), Or.inr ⟨b, off, rfl, hB, hb, fun j hj => ?_⟩⟩
  have hj' : j < l.length := by simpa using hj
  have := h j l[j] (List.getElem?_eq_getElem hj')
  rw [getElem!_pos _ j hj]
  simpa using this
theorem Cs.set {w : World} {b off : Nat} {d : List Str} {i : Nat} {y : Str} (h : Cs w b off d) (hi : i < d.length) : Cs (w.setCell ⟨b, off + i, none⟩ (ct y)) b off (d.set i y) := by
  intro k x hx
  have hfz : (w.setCell ⟨b, off + i, none⟩ (ct y)).frozen? ⟨b, off + k, none⟩ = w.frozen? ⟨b, off + k, none⟩ := by simp
  rw [hfz]
  by_cases e : k = i
  · subst e
    rw [List.getElem?_set_self hi] at hx
    obtain rfl := Option.some.inj hx
    obtain ⟨h1, h2⟩ := h k d[k] (List.getElem?_eq_getElem hi)
    exact ⟨World.cell?_setCell_same' w _ _ (by rw [h1]; rfl), h2⟩
  · rw [List.getElem?_set_ne (Ne.symm e)] at hx
    obtain ⟨h1, h2⟩ := h k x hx
    refine ⟨?_, h2⟩
    rw [← h1]
    exact World.cell?_setCell_other w ⟨b, off + i, none⟩ ⟨b, off + k, none⟩ (ct y) (fun e' => e (by have := congrArg Addr.off e'; simp only at this; omega))

theorem delete_none (ao : Option Addr) (cap : Nat) (fv : Value) (w : World) :
    Calls Try.prog 42 #[.slice ao 0 cap, fv] w fun e w' => e = .returned (.slice ao 0 cap) ∧ w' = w := by
  have ki : Calls Try.prog 45 #[.slice ao 0 cap, fv] w fun e w' => e = .returned (.int .i64 (-1)) ∧ w' = w := by
    go_enter Try.func45, Try.ntmps45
    go_wp2
    refine wp_loop_rounds 1 ?_
    rw [rounds_succ]
    go_wp2
    go_ret
    exact ⟨rfl, rfl⟩
  go_enter Try.func42, Try.ntmps42
  go_wp2_with (go_at_call 45; refine ki.mono ?_; rintro e w1 ⟨rfl, rfl⟩)
  go_ret
  exact ⟨rfl, rfl⟩
set_option maxRecDepth 20000 in
set_option maxHeartbeats 4000000 in
theorem delf_some (f : Nat) (lb : Array Value) (eg : ∀ args w, (callFunc f args).run Try.prog w = .ok (.enter f args) w) (B b off n cap : Nat) (l : List Str) (p : Str → Bool) (w : World) (hl : Hidden (l.length = n)) (hc : Cs w b off l) (hb : b < w.heap.size) (hB : B ≤ b) (h1 : n ≤ cap) (h2 : cap ≤ 9223372036854775807)
    (hp : ∀ W, Fr (fun k => k = b) w W → ∀ x ∈ l, Calls Try.prog f (#[encStr x] ++ lb) W fun e w' => e = .returned (.bool (p x)) ∧ Fr (fun _ => False) W w') (F : List Str) (hF : Hidden (l.filter (fun x => !p x) = F)) :
    Calls Try.prog 42 #[.slice (some ⟨b, off, none⟩) n cap, .func (.func f) #[] lb] w fun e w' => e = .returned (.slice (some ⟨b, off, none⟩) F.length cap) ∧ Tn w' B (.slice (some ⟨b, off, none⟩) F.length cap) F ∧ Fr (fun k => k = b) w w' := by
  have hcH : Hidden (Cs w b off l) := hc
  have hbH : Hidden (b < w.heap.size) := hb
  have hBH : Hidden (B ≤ b) := hB
  obtain ⟨I, hI⟩ : ∃ I, idxP p l 0 = I := ⟨_, rfl⟩
  have ki := ifuncSA f lb eg (some ⟨b, off, none⟩) n cap l p I w hl h1 h2 (Or.inr ⟨b, off, rfl, fun i x hx => (hc i x hx).1⟩) (fun W hW => hp W (hW.mono fun _ _ f => f.elim)) hI
  have hpH : Hidden (∀ W, Fr (fun k => k = b) w W → ∀ x ∈ l, Calls Try.prog f (#[encStr x] ++ lb) W fun e w' => e = .returned (.bool (p x)) ∧ Fr (fun _ => False) W w') := hp
  clear hc hb hB hp
  rcases idxP_spec p l 0 with ⟨e1, e2, _⟩ | ⟨i0, x0, e1, e2, e3, _⟩
  · obtain rfl : (-1 : Int) = I := by rw [← hI, e2]
    have hFl : Hidden (F = l) := by
      have := (show l.filter (fun x => !p x) = F from hF)
      rw [List.filter_eq_self.2 (fun x hx => by simp [e1 x hx])] at this
      exact this.symm
    clear hI e1 e2
    go_enter Try.func42, Try.ntmps42
    go_wp2_with (go_at_call 45; refine ki.mono ?_; rintro e w1 ⟨rfl, f1⟩; have f1H : Hidden (Fr (fun _ => False) w w1) := f1; clear f1)
    go_ret
    have hFl' : F = l := hFl
    subst hFl'
    have hl' : F.length = n := hl
    refine ⟨by rw [hl']; rfl, ?_, Fr.mono f1H fun _ _ f => f.elim⟩
    exact (Cs.keep hcH f1H (fun f => f) hbH).tn rfl (by omega) h2 hBH (Nat.lt_of_lt_of_le hbH (show Fr (fun _ => False) w w1 from f1H).size)
  · obtain rfl : (i0 : Int) = I := by rw [← hI, e3]; simp
    have hi0 : i0 < l.length := (List.getElem?_eq_some_iff.1 e1).1
    have hall : Hidden ((l.take (i0 + 1)).filter (fun x => !p x) = l.take i0) := by
      show _ = _
      rw [filter_snoc e1, e2]
      rw [if_neg (by simp), List.append_nil]
      refine List.filter_eq_self.2 fun x hx => ?_
      obtain ⟨j, hj⟩ := List.getElem?_of_mem hx
      rw [List.getElem?_take] at hj
      split at hj
      · rename_i hji
        rcases idxP_spec p (l.take i0) 0 with ⟨q1, _, _⟩ | ⟨k, y, q1, q2, q3, _⟩
        · simp [q1 x hx]
        · exfalso
          rw [List.getElem?_take] at q1
          split at q1
          · rename_i hki
            have key : ∀ (a : List Str) (m s : Nat) (z : Str), a[m]? = some z → p z = true → ∃ r : Nat, r ≤ m ∧ idxP p a s = ((s + r : Nat) : Int) := by
              intro a
              induction a with
              | nil => intro m s z h; simp at h
              | cons c a ih =>
                intro m s z hz hpz
                unfold idxP
                by_cases hc : p c = true
                · exact ⟨0, by omega, by rw [if_pos hc]; simp⟩
                · rw [if_neg hc]
                  cases m with
                  | zero => simp at hz; subst hz; exact absurd hpz hc
                  | succ m =>
                    obtain ⟨r, r1, r2⟩ := ih m (s + 1) z (by simpa using hz) hpz
                    exact ⟨r + 1, by omega, by rw [r2]; congr 1; omega⟩
            obtain ⟨r, r1, r2⟩ := key l k 0 y q1 q2
            rw [e3] at r2
            omega
          · cases q1
      · cases hj
    have hi0H : Hidden (i0 < l.length) := hi0
    have hln : l.length = n := hl
    have hi0n : i0 < n := by omega
    clear hI e1 e2 e3 hi0 hln
    go_enter Try.func42, Try.ntmps42
    go_wp2_with (go_at_call 45; refine ki.mono ?_; rintro e w1 ⟨rfl, f1⟩; have f1H : Hidden (Fr (fun _ => False) w w1) := f1; clear f1)
    go_loopg [5, 6] (n - (i0 + 1)) (fun k iv jv wr => ∃ (i j : Nat) (d : List Str), iv = .int .i64 (i : Int) ∧ jv = .int .i64 (j : Int) ∧ i < j ∧ j ≤ n ∧ k = n - j ∧ d.length = n ∧ Cs wr b off d ∧ d.take i = (l.take j).filter (fun x => !p x) ∧ d.drop j = l.drop j ∧ Fr (fun k => k = b) w wr)
    case atStart =>
      refine ⟨i0, i0 + 1, l, rfl, by go_num, by omega, by omega, rfl, hl, Cs.keep hcH f1H (fun f => f) hbH, hall.symm, rfl, Fr.mono f1H fun _ _ f => f.elim⟩
    case round =>
      obtain ⟨i, j, d, rfl, rfl, hij, hj, hk, hd, hcs, ht, hdr, hf⟩ := hrel
      have hkH : Hidden (gk = n - j) := hk
      have hdH : Hidden (d.length = n) := hd
      have hcsH : Hidden (Cs wr b off d) := hcs
      have htH : Hidden (d.take i = (l.take j).filter (fun x => !p x)) := ht
      have hdrH : Hidden (d.drop j = l.drop j) := hdr
      have hfH : Hidden (Fr (fun k => k = b) w wr) := hf
      have hbr : Hidden (b < wr.heap.size) := Nat.lt_of_lt_of_le hbH hf.size
      clear hk ht hdr
      by_cases hjl : j < n
      · have hln : l.length = n := hl
        obtain ⟨x, hx⟩ : ∃ x, l[j]? = some x := ⟨l[j], List.getElem?_eq_getElem (by omega)⟩
        have hdx : d[j]? = some x := by
          have h1 : (d.drop j)[0]? = (l.drop j)[0]? := by rw [(show d.drop j = l.drop j from hdrH)]
          rw [List.getElem?_drop, List.getElem?_drop] at h1
          simpa [hx] using h1
        have cx := (hcs j x hdx).1
        have kp := (show ∀ W, Fr (fun k => k = b) w W → ∀ x ∈ l, Calls Try.prog f (#[encStr x] ++ lb) W fun e w' => e = .returned (.bool (p x)) ∧ Fr (fun _ => False) W w' from hpH) wr hf x (List.mem_of_getElem? hx)
        have kp' : Calls Try.prog f (#[ct x] ++ lb) wr fun e w' => e = .returned (.bool (p x)) ∧ Fr (fun _ => False) wr w' := kp
        have hsn : Hidden ((l.take (j + 1)).filter (fun x => !p x) = (l.take j).filter (fun x => !p x) ++ if (!p x) = true then [x] else []) := filter_snoc hx _
        have hdr1 : Hidden (d.drop (j + 1) = l.drop (j + 1)) := by
          have := congrArg List.tail (show d.drop j = l.drop j from hdrH)
          show d.drop (j + 1) = l.drop (j + 1)
          simpa using this
        have hjz : (j : Int) < (n : Int) := by omega
        obtain ⟨yi, hyi⟩ : ∃ yi, d[i]? = some yi := ⟨d[i], List.getElem?_eq_getElem (by omega)⟩
        have ci := (hcs i yi hyi).1
        have fi := (hcs i yi hyi).2
        clear hx hdx kp hln hyi
        obtain ⟨r, hr⟩ : ∃ r, p x = r := ⟨_, rfl⟩
        rw [hr] at kp'
        have hrH : Hidden (p x = r) := hr
        cases r
        · go_wp2_with fail
          refine kp'.mono ?_
          rintro e w2 ⟨rfl, f2⟩
          have f2H : Hidden (Fr (fun _ => False) wr w2) := f2
          have e2 := f2.block b hbr (fun f => f)
          have ci2 : w2.cell? ⟨b, off + i, none⟩ = some (ct yi) := f2.cellN ci
          have fi2 : w2.frozen? ⟨b, off + i, none⟩ = false := by rw [World.frozen?_of_block (a := ⟨b, off + i, none⟩) e2]; exact fi
          clear f2 e2 hr hcs hd hf
          have hiz : (i : Int) < (n : Int) := by omega
          have hi0z : (0 : Int) ≤ (i : Int) := by omega
          go_wp2
          go_roundg (n - (j + 1))
          case measure => have := (show gk = n - j from hkH); omega
          case rel =>
            have hdn : d.length = n := hdH
            refine ⟨i + 1, j + 1, d.set i x, by go_num, by go_num, by omega, by omega, rfl, by simpa using hdn, Cs.set (Cs.keep hcsH f2H (fun f => f) hbr) (by omega), ?_, ?_, ?_⟩
            · rw [(show (l.take (j + 1)).filter _ = _ from hsn), (show p x = false from hrH), ← (show d.take i = _ from htH)]
              rw [List.take_add_one, List.getElem?_set_self (by omega), List.take_set_of_le (Nat.le_refl _)]
              rfl
            · rw [List.drop_set_of_lt (by omega)]
              exact hdr1
            · exact (Fr.same hfH (Fr.mono f2H fun _ _ f => f.elim)).same ((Fr.setCell w2 ⟨b, off + i, none⟩ (ct x)).mono fun k _ e => e)
        · go_wp2_with fail
          refine kp'.mono ?_
          rintro e w2 ⟨rfl, f2⟩
          have f2H : Hidden (Fr (fun _ => False) wr w2) := f2
          clear f2 hr hcs hd hf
          go_wp2
          go_roundg (n - (j + 1))
          case measure => have := (show gk = n - j from hkH); omega
          case rel =>
            refine ⟨i, j + 1, d, rfl, by go_num, by omega, by omega, rfl, hdH, Cs.keep hcsH f2H (fun f => f) hbr, ?_, hdr1, Fr.same hfH (Fr.mono f2H fun _ _ f => f.elim)⟩
            rw [(show (l.take (j + 1)).filter _ = _ from hsn), (show p x = true from hrH), (show d.take i = _ from htH)]
            simp
      · obtain rfl : j = n := by omega
        have hdn : d.length = j := hd
        have hFd : Hidden (d.take i = F) := by
          have h1 : d.take i = (l.take j).filter (fun x => !p x) := htH
          have hln : l.length = j := hl
          rw [← hln, List.take_length] at h1
          exact h1.trans hF
        have hFl : Hidden (F.length = i) := by
          show _ = _
          rw [← (show d.take i = F from hFd), List.length_take]; omega
        have hcl : ∀ ty, (Builtin.clear_ #[23] ty #[.slice (some ⟨b, off + i, none⟩) (j - i) (cap - i)]).run Try.prog wr = .ok (.tuple #[]) (wr.setCells b (off + i) (List.replicate (j - i) (.string ⟨#[]⟩))) := fun ty =>
          Lib.run_clear_slice wr _ _ ty _ Try.underlying23 Try.zeroValue9 rfl rfl b (off + i) _ _ (by omega) (fun t ht => by
            rw [show off + i + t = off + (i + t) by omega, (hcs (i + t) d[i + t] (List.getElem?_eq_getElem (by omega))).1]; rfl) (fun t ht => by
            rw [show off + i + t = off + (i + t) by omega]; exact (hcs (i + t) d[i + t] (List.getElem?_eq_getElem (by omega))).2)
        have hne : ¬ cap = i := by omega
        have i1 : (i : Int) ≤ (j : Int) := by omega
        have i2 : (0 : Int) ≤ (i : Int) := by omega
        have i3 : (j : Int) ≤ (cap : Int) := by omega
        have i4 : (i : Int) ≤ (cap : Int) := by omega
        clear hcs hd hdn hf
        go_wp2
        go_ret
        have hFl' : F.length = i := hFl
        have hFd' : d.take i = F := hFd
        have hdl : d.length = j := hdH
        refine ⟨by rw [hFl']; rfl, ?_, ?_⟩
        · refine Cs.tn ?_ rfl (by omega) h2 hBH (by rw [size_setCells]; exact hbr)
          intro k x hx
          have hki : k < i := by have := (List.getElem?_eq_some_iff.1 hx).1; omega
          rw [← hFd', List.getElem?_take, if_pos hki] at hx
          obtain ⟨c1, c2⟩ := (show Cs wr b off d from hcsH) k x hx
          rw [World.cell?_setCells_out b _ _ wr _ (fun _ _ => Or.inl (by show off + k < off + i; omega)), World.frozen?_setCells]
          exact ⟨c1, c2⟩
        · refine Fr.same hfH ⟨World.os_setCells _ _ _ _, World.output_setCells _ _ _ _, by rw [size_setCells]; exact Nat.le_refl _, fun k hk hne => World.heap_setCells_other wr b _ _ hk (fun e => hne e)⟩
/-- slices.DeleteFunc. -/
theorem delf_any (f : Nat) (lb : Array Value) (eg : ∀ args w, (callFunc f args).run Try.prog w = .ok (.enter f args) w) (B : Nat) (ao : Option Addr) (cap : Nat) (l : List Str) (p : Str → Bool) (w : World) (h : Tn w B (.slice ao l.length cap) l)
    (hp : ∀ W, Fr (fun k => (Value.slice ao l.length cap).ownBlock = some k) w W → ∀ x ∈ l, Calls Try.prog f (#[encStr x] ++ lb) W fun e w' => e = .returned (.bool (p x)) ∧ Fr (fun _ => False) W w') :
    Calls Try.prog 42 #[.slice ao l.length cap, .func (.func f) #[] lb] w fun e w' => e = .returned (.slice ao (l.filter fun x => !p x).length cap) ∧ Tn w' B (.slice ao (l.filter fun x => !p x).length cap) (l.filter fun x => !p x) ∧ Fr (fun k => (Value.slice ao l.length cap).ownBlock = some k) w w' := by
  by_cases h0 : l = []
  · subst h0
    refine (delete_none ao cap _ w).mono ?_
    rintro e w' ⟨rfl, rfl⟩
    exact ⟨rfl, h, Fr.refl _ _⟩
  · obtain ⟨ao', cap', e, h1, h2, h3, h4⟩ := id h
    cases e
    rcases h4 with h4 | ⟨b, off, rfl, hB, hb, hH⟩
    · exact absurd h4 h0
    have hbk : ∀ k, (Value.slice (some (⟨b, off, none⟩ : Addr)) l.length cap).ownBlock = some k ↔ k = b := fun k => by simp [Value.ownBlock, eq_comm]
    refine (delf_some f lb eg B b off l.length cap l p w rfl (Tn.cs h).1 hb hB h1 h2 (fun W hW x hx => hp W (hW.mono fun k _ e => (hbk k).2 e) x hx) _ rfl).mono ?_
    rintro e w' ⟨rfl, k1, k2⟩
    exact ⟨rfl, k1, k2.mono fun k _ e => (hbk k).2 e⟩
end Go.Proofs.Ytajefmmggefbeaa.Dg
