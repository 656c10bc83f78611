/- The program's unlike. -/
import Derived.Test.YtjnjajiofhkinaaGreatDoorTyG
import Derived.Test.YtjnjajiofhkinaaGreatDoorTyE
namespace Go.Proofs.YtjnjajiofhkinaaGreatDoor.Ty
open Go.RowKit
set_option linter.unusedSimpArgs false
set_option linter.unusedVariables false

theorem wpl_next (w : World) {ops : Array Oper} {rest : List Oper} {o : Oper} {a : Act} {Q : Exit → Act → World → Prop} (hg : o.guard = none) (it : Operand) (hop : o.op = Op.next it false) (b r n : Nat) (D : DataW Value) (left : Lit → Bool) (cnt : Nat)
    (hit : a.eval it = .pointer (some ⟨r, 0, none⟩)) (h : w.ranges Tryz.prog 9 RI b r n D left cnt)
    (hDone : cnt = 0 → (∀ kl, left kl = false) → wpList Tryz.prog ops Q rest (a.put o.dst (.tuple #[.bool false])) w)
    (hMore : ∀ (s : Bs) (c : IP) (w' : World) (cnt' : Nat), OkN s → left (.string s) = true → (∀ zd, D.atKey (.string s) zd = .held (ipV c)) → w'.ranges Tryz.prog 9 RI b r n D (fun z => left z && !z.sameKey (.string s)) cnt' → cnt' < cnt →
      Fr (fun k => k = r) w w' → (Instr.entry (.pointer (some ⟨r, 0, none⟩))).run Tryz.prog w' = .ok (.tuple #[ct s, ipV c]) w' → wpList Tryz.prog ops Q rest (a.put o.dst (.tuple #[.bool true, ct s, ipV c])) w') : wpList Tryz.prog ops Q (o :: rest) a w :=
  wpList_next_ranges w hg it hop _ SK RI (fun s : Bs => ct s) ipV (fun key kl hk => by obtain ⟨s, h1, _⟩ := key_inv key kl hk; exact ⟨s, h1⟩) (fun v y hv => by obtain ⟨c, h1, _⟩ := RI_inv v y hv; exact ⟨c, h1⟩) b r n D left cnt hit h hDone
    fun s c kl y w' cnt' hkey hl hv hat hrg hlt hgr hsz hen => by
      obtain ⟨s', e1, rfl, hs⟩ := key_inv _ _ hkey
      have es : s = s' := by
        have := (Value.string.inj e1)
        have := congrArg (fun b : ByteArray => b.data.toList) this
        simpa using this
      subst es
      obtain ⟨c', e2, rfl⟩ := RI_inv _ _ hv
      rw [← e2] at hat
      exact hMore s c w' cnt' hs hl hat hrg hlt ((grown_fr hgr).mono fun k _ e => (Option.some.inj e).symm) hen
theorem ranges_fr {S : Nat → Prop} {w w' : World} {b r n cnt : Nat} {D : DataW Value} {left : Lit → Bool} (h : w.ranges Tryz.prog 9 RI b r n D left cnt) (hf : Fr S w w') (hb : ¬ S b) (hr : ¬ S r) : w'.ranges Tryz.prog 9 RI b r n D left cnt := by
  obtain ⟨es, clock, since, seen, c0, h1, h2, h3, h4, h5, h6⟩ := h
  exact ⟨es, clock, since, seen, c0, hf.heap h1 hb, h2, h3, h4, hf.heap h5 hr, h6⟩
/-- A name that one list has, and the other has not, or has otherwise. -/
def diffI (l1 l2 : List It) (x : Bs) : Prop := ∃ i, firstI l1 x = some i ∧ firstI l2 x ≠ some i
theorem own_lower {w : World} {B B' : Nat} {e : TypeId} {size : Nat} {v : Value} {n : Nat} {cells : List Value} (h : w.ownsRow B e size v n cells) (hb : B' ≤ B) : w.ownsRow B' e size v n cells := by
  refine ⟨h.1, ?_⟩
  rcases h.2 with h0 | ⟨g, cap, cur, rfl, hb2, hg, rest⟩
  · exact Or.inl h0
  · exact Or.inr ⟨g, cap, cur, rfl, by omega, hg, rest⟩
theorem same_str (x s : Bs) : (Lit.string x).sameKey (.string s) = decide (x = s) := by
  by_cases h : x = s
  · subst h
    rw [WideAt.sameKey_self (keylit x)]
    simp
  · rw [Maps.sameKey_ne (fun e => h (by cases e; rfl))]
    simp [h]
set_option maxRecDepth 20000 in
set_option maxHeartbeats 8000000 in
theorem unlike_any (W : World) (b1 n1 b2 n2 : Nat) (l1 l2 : List It) (w : World) (h1 : FM W w b1 n1 l1) (h2 : FM W w b2 n2 l2) (hw : Fr (fun _ => False) W w) (hn : n1 ≤ 4398046511104) :
    Calls Tryz.prog 31 #[.map (some b1), .map (some b2)] w fun e w' => ∃ (v : Value) (L : List Bs), e = .returned v ∧ w'.ownsRow w.heap.size 9 1 v L.length (L.map ct) ∧ (∀ x, x ∈ L ↔ diffI l1 l2 x) ∧ L.length ≤ n1 ∧ Fr (fun _ => False) w w' := by
  have hb1 : Hidden (b1 < w.heap.size) := h1.lt
  have hb2 : Hidden (b2 < w.heap.size) := h2.lt
  obtain ⟨D1, own1, p1⟩ := h1
  obtain ⟨D2, own2, p2⟩ := h2
  have p1H : Hidden (∀ s : Bs, (firstI l1 s = none ∧ Maps.has D1 (.string s) = false) ∨ ∃ i c, firstI l1 s = some i ∧ Maps.has D1 (.string s) = true ∧ (∀ zd, D1.atKey (.string s) zd = .held (ipV c)) ∧ ItI W i (ipV c)) := p1
  have p2H : Hidden (∀ s : Bs, (firstI l2 s = none ∧ Maps.has D2 (.string s) = false) ∨ ∃ i c, firstI l2 s = some i ∧ Maps.has D2 (.string s) = true ∧ (∀ zd, D2.atKey (.string s) zd = .held (ipV c)) ∧ ItI W i (ipV c)) := p2
  have own1H : Hidden (w.ownsMap Tryz.prog 9 RI b1 n1 D1) := own1
  have own2H : Hidden (w.ownsMap Tryz.prog 9 RI b2 n2 D2) := own2
  have hwH : Hidden (Fr (fun _ => False) W w) := hw
  clear p1 p2 own1 own2 hw
  go_enter Tryz.func31, Tryz.ntmps31
  go_wp2_with (at_range; refine wpList_range_own _ rfl _ _ rfl _ _ SK map_under RI b1 n1 D1 rfl own1H ?_; intro w0 hrg0 hg0 hs0)
  go_frame
  have f0 : Fr (fun _ => False) w w0 := (grown_fr hg0).mono (fun k _ e => by cases e)
  have hs0H : Hidden (w0.heap.size = w.heap.size + 1) := hs0
  have hrg0H : Hidden (w0.ranges Tryz.prog 9 RI b1 w.heap.size n1 D1 (Maps.has D1) (Maps.size D1)) := hrg0
  have hszH : Hidden (Maps.size D1 ≤ n1) := (show w.ownsMap Tryz.prog 9 RI b1 n1 D1 from own1H).size_le
  clear hrg0 hg0 hs0
  go_loopg [5] (Maps.size D1) (fun g lv wr => ∃ (left : Lit → Bool) (cnt : Nat) (v : Value) (L : List Bs), v = lv ∧ wr.ranges Tryz.prog 9 RI b1 w.heap.size n1 D1 left cnt ∧ wr.ownsRow (w.heap.size + 1) 9 1 v L.length (L.map ct) ∧ (∀ x, x ∈ L ↔ (diffI l1 l2 x ∧ left (.string x) = false)) ∧ (∀ x, left (.string x) = true → Maps.has D1 (.string x) = true) ∧ L.length + cnt ≤ n1 ∧ g = cnt ∧ Fr (fun _ => False) w wr ∧ w.heap.size + 1 ≤ wr.heap.size)
  case atStart =>
    refine ⟨_, _, _, [], rfl, hrg0H, own_nil _ _ _ _, fun x => ?_, fun x h => h, by simpa using (show Maps.size D1 ≤ n1 from hszH), rfl, f0, Nat.le_of_eq (show w0.heap.size = w.heap.size + 1 from hs0H).symm⟩
    simp only [List.not_mem_nil, false_iff, not_and]
    rintro ⟨i, a1, _⟩ hf
    rcases (show ∀ s : Bs, _ from p1H) x with ⟨c1, _⟩ | ⟨_, _, _, c2, _⟩
    · rw [c1] at a1; cases a1
    · rw [c2] at hf; cases hf
  case round =>
    obtain ⟨left, cnt, v, L, rfl, hrg, hrow, hL, hlh, hlen, hgk, hfr, hsz⟩ := hrel
    have hgkH : Hidden (gk = cnt) := hgk
    have hLH : Hidden (∀ x, x ∈ L ↔ (diffI l1 l2 x ∧ left (.string x) = false)) := hL
    have hlhH : Hidden (∀ x, left (.string x) = true → Maps.has D1 (.string x) = true) := hlh
    have hlenH : Hidden (L.length + cnt ≤ n1) := hlen
    have hrowH : Hidden (wr.ownsRow (w.heap.size + 1) 9 1 v L.length (L.map ct)) := hrow
    have hfrH : Hidden (Fr (fun _ => False) w wr) := hfr
    have hrgH : Hidden (wr.ranges Tryz.prog 9 RI b1 w.heap.size n1 D1 left cnt) := hrg
    have hszH2 : Hidden (w.heap.size + 1 ≤ wr.heap.size) := hsz
    obtain ⟨aor, capr, hv, g1, g2, _⟩ := own_slice hrow (by decide)
    have g2' : capr ≤ 9223372036854775807 := by unfold maxLen at g2; omega
    subst hv
    clear hgk hL hlh hlen hrow hfr hrg hsz g2
    go_wp2_with (at_next; refine wpl_next _ rfl _ rfl b1 w.heap.size n1 D1 left cnt rfl hrgH ?_ ?_)
    · intro h0 hl0
      have hl0H : Hidden (∀ kl, left kl = false) := hl0
      clear h0 hl0
      go_wp2_with fail
      go_ret
      refine ⟨_, L, rfl, own_lower hrowH (by omega), fun x => ?_, by have : L.length + cnt ≤ n1 := hlenH; omega, hfrH⟩
      rw [(show ∀ x, x ∈ L ↔ _ from hLH) x, (show ∀ kl, left kl = false from hl0H) (.string x)]
      simp
    · intro s c w1 cnt1 hs hls hat hrg1 hlt f1 hen
      have hr1 : w.heap.size < wr.heap.size := by have : w.heap.size + 1 ≤ wr.heap.size := hszH2; omega
      have hrow1 : Hidden (w1.ownsRow (w.heap.size + 1) 9 1 (.slice aor L.length capr) L.length (L.map ct)) := own_keep hrowH f1 (fun k hk e => by have := (own_block hrowH k hk).1; omega)
      have fr1 : Hidden (Fr (fun _ => False) w w1) := (show Fr (fun _ => False) w wr from hfrH).over f1 (fun k e => by omega)
      have sz1 : Hidden (w.heap.size + 1 ≤ w1.heap.size) := Nat.le_trans hszH2 f1.size
      have hltH : Hidden (cnt1 < cnt) := hlt
      have hrg1H : Hidden (w1.ranges Tryz.prog 9 RI b1 w.heap.size n1 D1 (fun z => left z && !z.sameKey (.string s)) cnt1) := hrg1
      have hlsH : Hidden (left (.string s) = true) := hls
      obtain ⟨i, hi1, hi2⟩ : ∃ i, firstI l1 s = some i ∧ ItI W i (ipV c) := by
        rcases (show ∀ s : Bs, _ from p1H) s with ⟨_, a2⟩ | ⟨i, c', a1, _, a3, a4⟩
        · rw [(show ∀ x, left (.string x) = true → Maps.has D1 (.string x) = true from hlhH) s hls] at a2; cases a2
        · have e := a3 (.held (ipV c))
          rw [hat] at e
          rw [DataW.held.injEq] at e
          exact ⟨i, a1, by rw [e]; exact a4⟩
      have hi1H : Hidden (firstI l1 s = some i) := hi1
      -- whoever goes on behind the round
      have stepNo : Hidden (firstI l2 s = some i → ∀ x, x ∈ L ↔ (diffI l1 l2 x ∧ (left (.string x) && !(Lit.string x).sameKey (.string s)) = false)) := by
        intro h2 x
        rw [(show ∀ x, x ∈ L ↔ _ from hLH) x, same_str]
        by_cases e : x = s
        · subst e
          have hnd : ¬ diffI l1 l2 x := by
            rintro ⟨i', a1, a2⟩
            rw [hi1] at a1
            obtain rfl := Option.some.inj a1
            exact a2 h2
          simp [hnd]
        · simp [e]
      have stepYes : Hidden (firstI l2 s ≠ some i → ∀ x, x ∈ L ++ [s] ↔ (diffI l1 l2 x ∧ (left (.string x) && !(Lit.string x).sameKey (.string s)) = false)) := by
        intro h2 x
        rw [List.mem_append, (show ∀ x, x ∈ L ↔ _ from hLH) x, same_str, List.mem_singleton]
        by_cases e : x = s
        · subst e
          have hd : diffI l1 l2 x := ⟨i, hi1, h2⟩
          simp [hd]
        · simp [e]
      have hlh2 : Hidden (∀ x, (left (.string x) && !(Lit.string x).sameKey (.string s)) = true → Maps.has D1 (.string x) = true) := fun x hx => by
        rw [Bool.and_eq_true] at hx
        exact (show ∀ x, left (.string x) = true → _ from hlhH) x hx.1
      have hbound : Hidden (L.length + 1 ≤ maxLen ∧ (L.length + 1) * 16 ≤ 140737488355328) := by
        have : L.length + cnt ≤ n1 := hlenH
        exact ⟨by unfold maxLen; omega, by omega⟩
      have own2 : Hidden (w1.ownsMap Tryz.prog 9 RI b2 n2 D2) := own_fr (own_fr own2H hfrH (fun f => f)) f1 (fun e => by have : b2 < w.heap.size := hb2; omega)
      clear hat hls hlt hrg1 hi1
      obtain ⟨ck, cn, ctp, cb, cao, cl, cc⟩ := c
      simp only [ipV] at hen hi2
      have hen2 := hen
      rcases (show ∀ s : Bs, _ from p2H) s with ⟨a1, a2⟩ | ⟨j, c2, a1, a2, a3, a4⟩
      · have hne : Hidden (firstI l2 s ≠ some i) := by rw [a1]; intro h; cases h
        clear a1
        go_wp2_with (first
          | (at_lookup; refine wpl_look _ rfl _ _ rfl b2 n2 D2 s false rfl (own_fr own2 (Fr.alloc (fun _ => False) _ _) (fun f => f)) rfl hs a2 ?_; intro c3 hc3; obtain ⟨k3, s3, t3, b3, o3, m3, p3⟩ := c3; simp only [ipV] at hc3 ⊢)
          | (at_builtin
             refine wpl_append rfl _ _ 36 9 _ 1 16 Tryz.underlying36 info_str rfl (by decide) rfl (w.heap.size + 1) _ L.length (L.map ct) ⟨w1.heap.size + 1 + 1, 0, none⟩ 1 1 [ct s] rfl (own_keep (own_keep (own_keep hrow1 (Fr.alloc (fun _ => False) _ _) (fun _ _ f => f)) (Fr.alloc (fun _ => False) _ _) (fun _ _ f => f)) (Fr.alloc (fun _ => False) _ _) (fun _ _ f => f)) rfl rfl ?c1 ?c2 hbound.1 hbound.2 ?c4 ?_
             case c1 => exact fun j u hu => by rw [add0]; exact (cell_of_row _ _ j _ _ _ (alloc_at _ _ _ (by simp))).trans (by simpa using hu)
             case c2 => exact fun u hu => by simp only [List.mem_cons, List.not_mem_nil, or_false] at hu; subst hu; rfl
             case c4 => exact Nat.le_trans sz1 (((Fr.alloc (fun _ => False) _ _).same (Fr.alloc _ _ _)).same (Fr.alloc _ _ _)).size
             intro v2 w2 hr2 f2 _))
        go_roundg cnt1
        case measure => have h1 : gk = cnt := hgkH; have h2 : cnt1 < cnt := hltH; omega
        case rel =>
          have hbz : ∀ k, (Value.slice aor L.length capr).ownBlock = some k → w.heap.size + 1 ≤ k := fun k hk => (own_block hrow1 k hk).1
          refine ⟨fun z => left z && !z.sameKey (.string s), cnt1, v2, L ++ [s], rfl, ?_, by rw [List.length_append, List.map_append]; exact hr2, (show _ → _ from stepYes) hne, hlh2, ?_, rfl, ?_, ?_⟩
          · exact ranges_fr (ranges_fr hrg1H (((Fr.alloc (fun _ => False) _ _).same (Fr.alloc _ _ _)).same (Fr.alloc _ _ _)) (fun f => f) (fun f => f)) f2 (fun hk => by have := hbz _ hk; have : b1 < w.heap.size := hb1; omega) (fun hk => by have := hbz _ hk; omega)
          · have h1 : L.length + cnt ≤ n1 := hlenH; have h2 : cnt1 < cnt := hltH; rw [List.length_append, List.length_singleton]; omega
          · exact ((show Fr (fun _ => False) w w1 from fr1).same (((Fr.alloc (fun _ => False) _ _).same (Fr.alloc _ _ _)).same (Fr.alloc _ _ _))).over f2 (fun k hk => by have := hbz k hk; omega)
          · exact Nat.le_trans (Nat.le_trans sz1 (((Fr.alloc (fun _ => False) _ _).same (Fr.alloc _ _ _)).same (Fr.alloc _ _ _)).size) f2.size
      · obtain ⟨r, hr⟩ : ∃ r, decide (i = j) = r := ⟨_, rfl⟩
        have hrH : Hidden (decide (i = j) = r) := hr
        clear hr
        cases r
        case true =>
          have hyes : Hidden (firstI l2 s = some i) := by rw [a1, of_decide_eq_true (show decide (i = j) = true from hrH)]; rfl
          clear a1
          go_wp2_with (first
            | (at_lookup; refine wpl_look _ rfl _ _ rfl b2 n2 D2 s true rfl (own_fr own2 (Fr.alloc (fun _ => False) _ _) (fun f => f)) rfl hs a2 ?_; intro c3 hc3; have e3 := hc3 rfl c2 a3; obtain ⟨k3, s3, t3, b3, o3, m3, p3⟩ := c3; obtain ⟨k4, s4, t4, b4, o4, m4, p4⟩ := c2; simp only [ipV] at e3 a4 ⊢; rw [← e3] at a4; clear e3 a3 hc3; have ks := fun (w' : World) (f : Fr (fun _ => False) w1 w') => sameItem_any i j _ _ w' (hi2.keep (((show Fr (fun _ => False) W w from hwH).same fr1).same f)) (a4.keep (((show Fr (fun _ => False) W w from hwH).same fr1).same f)))
            | (go_at_call 19; refine (ks _ ((Fr.alloc _ _ _).same (Fr.alloc _ _ _))).mono ?_; rw [(show decide (i = j) = true from hrH)]; rintro e w4 ⟨rfl, f4⟩))
          go_roundg cnt1
          case measure => have h1 : gk = cnt := hgkH; have h2 : cnt1 < cnt := hltH; omega
          case rel =>
            have g4 : Fr (fun _ => False) w1 w4 := ((Fr.alloc (fun _ => False) _ _).same (Fr.alloc _ _ _)).same f4
            refine ⟨fun z => left z && !z.sameKey (.string s), cnt1, _, L, rfl, ranges_fr hrg1H g4 (fun f => f) (fun f => f), own_keep hrow1 g4 (fun _ _ f => f), (show _ → _ from stepNo) hyes, hlh2, ?_, rfl, (show Fr (fun _ => False) w w1 from fr1).same g4, Nat.le_trans sz1 g4.size⟩
            have h1 : L.length + cnt ≤ n1 := hlenH
            have h2 : cnt1 < cnt := hltH
            omega
        case false =>
          have hne : Hidden (firstI l2 s ≠ some i) := by rw [a1]; intro h; exact of_decide_eq_false (show decide (i = j) = false from hrH) (Option.some.inj h).symm
          clear a1
          go_upto_region 7 with (first
            | (at_lookup; refine wpl_look _ rfl _ _ rfl b2 n2 D2 s true rfl (own_fr own2 (Fr.alloc (fun _ => False) _ _) (fun f => f)) rfl hs a2 ?_; intro c3 hc3; have e3 := hc3 rfl c2 a3; obtain ⟨k3, s3, t3, b3, o3, m3, p3⟩ := c3; obtain ⟨k4, s4, t4, b4, o4, m4, p4⟩ := c2; simp only [ipV] at e3 a4 ⊢; rw [← e3] at a4; clear e3 a3 hc3; have ks := fun (w' : World) (f : Fr (fun _ => False) w1 w') => sameItem_any i j _ _ w' (hi2.keep (((show Fr (fun _ => False) W w from hwH).same fr1).same f)) (a4.keep (((show Fr (fun _ => False) W w from hwH).same fr1).same f)))
            | (go_at_call 19; refine (ks _ ((Fr.alloc _ _ _).same (Fr.alloc _ _ _))).mono ?_; rw [(show decide (i = j) = false from hrH)]; rintro e w4 ⟨rfl, f4⟩; have g4 : Fr (fun _ => False) w1 w4 := ((Fr.alloc (fun _ => False) _ _).same (Fr.alloc _ _ _)).same f4; have hrow4 : Hidden (w4.ownsRow (w.heap.size + 1) 9 1 (.slice aor L.length capr) L.length (L.map ct)) := own_keep hrow1 g4 (fun _ _ f => f); have sz4 : Hidden (w.heap.size + 1 ≤ w4.heap.size) := Nat.le_trans sz1 g4.size; have g4H : Hidden (Fr (fun _ => False) w1 w4) := g4; clear g4 f4 ks a4 hi2))
          go_wp2_with (at_builtin; refine wpl_append rfl _ _ 36 9 _ 1 16 Tryz.underlying36 info_str rfl (by decide) rfl (w.heap.size + 1) _ L.length (L.map ct) ⟨w4.heap.size, 0, none⟩ 1 1 [ct s] rfl (own_keep hrow4 (Fr.alloc (fun _ => False) w4 _) (fun _ _ f => f)) rfl rfl ?_ ?_ hbound.1 hbound.2 ?_ ?_; (focus (exact fun j u hu => by rw [add0]; exact (cell_of_row _ _ j _ _ _ (alloc_new w4 _)).trans (by simpa using hu))); (focus (exact fun u hu => by simp only [List.mem_cons, List.not_mem_nil, or_false] at hu; subst hu; rfl)); (focus (exact Nat.le_trans sz4 (Fr.alloc (fun _ => False) w4 _).size)); intro v2 w2 hr2 f2 _)
          go_roundg cnt1
          case measure => have h1 : gk = cnt := hgkH; have h2 : cnt1 < cnt := hltH; omega
          case rel =>
            have hbz : ∀ k, (Value.slice aor L.length capr).ownBlock = some k → w.heap.size + 1 ≤ k := fun k hk => (own_block hrow1 k hk).1
            refine ⟨fun z => left z && !z.sameKey (.string s), cnt1, v2, L ++ [s], rfl, ?_, by rw [List.length_append, List.map_append]; exact hr2, (show _ → _ from stepYes) hne, hlh2, ?_, rfl, ?_, ?_⟩
            · exact ranges_fr (ranges_fr hrg1H ((show Fr (fun _ => False) w1 w4 from g4H).same (Fr.alloc _ _ _)) (fun f => f) (fun f => f)) f2 (fun hk => by have := hbz _ hk; have : b1 < w.heap.size := hb1; omega) (fun hk => by have := hbz _ hk; omega)
            · have h1 : L.length + cnt ≤ n1 := hlenH; have h2 : cnt1 < cnt := hltH; rw [List.length_append, List.length_singleton]; omega
            · exact ((show Fr (fun _ => False) w w1 from fr1).same ((show Fr (fun _ => False) w1 w4 from g4H).same (Fr.alloc _ _ _))).over f2 (fun k hk => by have := hbz k hk; omega)
            · exact Nat.le_trans (Nat.le_trans sz4 (Fr.alloc (fun _ => False) w4 _).size) f2.size
end Go.Proofs.YtjnjajiofhkinaaGreatDoor.Ty
