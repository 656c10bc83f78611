/- The program's Join and Same. -/
import Derived.Test.YtdhiombagbiffaaDoorLxBld
namespace Go.Proofs.YtdhiombagbiffaaDoor
open Go.RowKit Lx
set_option linter.unusedSimpArgs false
set_option linter.unusedVariables false

def tailJ (l : List Tok) : By := l.flatMap fun t => 32 :: t.x
theorem joinS_cons (t : Tok) (ts : List Tok) : joinS (t :: ts) = t.x ++ tailJ ts := by
  induction ts generalizing t with
  | nil => simp [joinS, tailJ]
  | cons t' ts ih =>
    show t.x ++ 32 :: joinS (t' :: ts) = _
    rw [ih]
    simp [tailJ]
theorem fr_below {S : Nat → Prop} {B : Nat} {w w' : World} (h : Below B w w') (hS : ∀ k, B ≤ k → S k) : Fr S w w' :=
  ⟨h.os, h.output, h.size, fun k hk hn => h.block k (Nat.lt_of_not_le (fun hb => hn (hS k hb)))⟩
theorem Bat.low {B b : Nat} {p : Value} {bs : By} {w : World} (h : Bat B b p bs w) : B ≤ b := h.1
theorem Bld.lt {B b : Nat} {bs : By} {w : World} (h : Bld B b bs w) : b < w.heap.size := by
  rcases h with ⟨_, v, hb, _⟩ | ⟨_, v, hb, _⟩
  · exact lt_of_heap hb
  · exact lt_of_heap hb
theorem Bld.low {B b : Nat} {bs : By} {w : World} (h : Bld B b bs w) : B ≤ b := by
  rcases h with h | h
  · exact h.1
  · exact h.1
theorem Bld.alloc {B b : Nat} {bs : By} {w : World} (h : Bld B b bs w) (o : Obj) : Bld B b bs (w.alloc o) := by
  rcases h with ⟨h1, v, hb, ho, hn⟩ | ⟨h1, v, hb, ho, hn⟩
  · exact Or.inl ⟨h1, v, (alloc_old _ _ _ (lt_of_heap hb)).trans hb, ho.alloc o, hn⟩
  · exact Or.inr ⟨h1, v, (alloc_old _ _ _ (lt_of_heap hb)).trans hb, ho.alloc o, hn⟩
/-- Behind a builder's call: what lay there ahead of it. -/
theorem bs_over {B b : Nat} {w w1 w2 : World} (h : Fr (fun _ => False) w w1) (g : Fr (BS B b w1) w1 w2) (hB : w.heap.size ≤ B) (hb : B ≤ b) : Fr (fun _ => False) w w2 :=
  h.over g (fun k hk => by rcases hk with rfl | ⟨h1, _⟩ <;> omega)

set_option maxRecDepth 20000 in
set_option maxHeartbeats 1000000 in
theorem join_walk (v : Value) (ts : List Tok) (J : By) (hJ : Hidden (joinS ts = J)) (hl : J.length ≤ 140737488355328) (hn : ts.length ≤ 281474976710656) (w : World) (hv : Tk w v ts) :
    Calls Tryd.prog 13 #[v] w fun e w' => e = .returned (.string ⟨J.toArray⟩) ∧ Fr (fun _ => False) w w' := by
  have hvH : Hidden (Tk w v ts) := hv
  obtain ⟨ao, cap, rfl, hcap, hcm, _⟩ := hv
  have hb0 : Hidden (Bld w.heap.size w.heap.size [] (w.alloc (.cells #[.pointer none, .slice none 0 0] 55 (0, 0)))) :=
    Or.inl ⟨Nat.le_refl _, _, alloc_new _ _, World.ownsRow_nil _ _ _ _, by simp [Value.ownBlock]⟩
  go_enter Tryd.func13, Tryd.ntmps13
  go_wp2_with fail
  go_loopg [8] ts.length (fun k iv wr => ∃ (i : Nat) (acc : By), iv = .int .i64 (i : Int) ∧ i ≤ ts.length ∧ Bld w.heap.size w.heap.size acc wr ∧ ((i = 0 ∧ acc = []) ∨ (0 < i ∧ acc ++ tailJ (ts.drop i) = J)) ∧ k = ts.length - i ∧ Fr (fun _ => False) w wr)
  case atStart => exact ⟨0, [], rfl, by omega, hb0, Or.inl ⟨rfl, rfl⟩, rfl, Fr.alloc _ _ _⟩
  case round =>
    obtain ⟨i, acc, rfl, hi, hbd, hac, hgk, hfr⟩ := hrel
    have hgkH : Hidden (gk = ts.length - i) := hgk
    have hsz := hfr.size
    clear hgk hb0
    by_cases hil : i < ts.length
    · obtain ⟨t, ht⟩ : ∃ t, ts[i]? = some t := ⟨ts[i], List.getElem?_eq_getElem hil⟩
      obtain ⟨ao', cap', hv', _, _, h3⟩ := (show Tk w _ ts from hvH).keepN hfr
      simp only [Value.slice.injEq, true_and] at hv'
      obtain ⟨rfl, rfl⟩ := hv'
      rcases h3 with h3 | ⟨g, off, rfl, hc⟩
      · rw [h3] at hil; simp at hil
      have hdr := drop_at ht
      have hcc := hc i t ht
      obtain ⟨k, x, ty, b, p⟩ := t
      have d0 : wr.cell? ⟨g, off + i * 5, none⟩ = some (.int .i64 (k : Int)) := hcc 0 _ rfl
      have d1 : wr.cell? ⟨g, off + i * 5 + 1, none⟩ = some (.string ⟨x.toArray⟩) := hcc 1 _ rfl
      have d2 : wr.cell? ⟨g, off + i * 5 + 2, none⟩ = some (.int .i64 ty) := hcc 2 _ rfl
      have d3 : wr.cell? ⟨g, off + i * 5 + 3, none⟩ = some (.int .u64 b) := hcc 3 _ rfl
      have d4 : wr.cell? ⟨g, off + i * 5 + 4, none⟩ = some (.int .i64 (p : Int)) := hcc 4 _ rfl
      clear hc hcc ht
      have ha0 : Hidden ((wr.alloc (.cells #[.int .i64 (k : Int), .string ⟨x.toArray⟩, .int .i64 ty, .int .u64 b, .int .i64 (p : Int)] 45 (0, 0))).heap[wr.heap.size]? = some (.cells #[.int .i64 (k : Int), .string ⟨x.toArray⟩, .int .i64 ty, .int .u64 b, .int .i64 (p : Int)] 45 (0, 0))) := alloc_new _ _
      have e1 : (wr.alloc (.cells #[.int .i64 (k : Int), .string ⟨x.toArray⟩, .int .i64 ty, .int .u64 b, .int .i64 (p : Int)] 45 (0, 0))).cell? ⟨wr.heap.size, 1, none⟩ = some (.string ⟨x.toArray⟩) := cell_of_row _ _ 1 _ _ _ (alloc_new _ _)
      have hbd1 := hbd.alloc (.cells #[.int .i64 (k : Int), .string ⟨x.toArray⟩, .int .i64 ty, .int .u64 b, .int .i64 (p : Int)] 45 (0, 0))
      rcases hac with ⟨rfl, rfl⟩ | ⟨h0, hacc⟩
      · have hj : Hidden (x ++ tailJ (ts.drop 1) = J) := by
          show _ = _
          rw [← (show joinS ts = J from hJ)]
          have : ts = ⟨k, x, ty, b, p⟩ :: ts.drop 1 := by simpa using hdr
          rw [this, joinS_cons]
          simp
        have hxl : x.length ≤ J.length := by rw [← (show _ = J from hj), List.length_append]; omega
        have kw := wstr_any w.heap.size w.heap.size [] x _ hbd1 (by simp; omega) (by simp; omega)
        clear hdr hJ
        simp only [Nat.zero_mul, Nat.add_zero] at d0 d1 d2 d3 d4
        go_wp2_with (go_at_call 26; refine kw.mono ?_; rintro e W2 ⟨rfl, hb2, f2⟩)
        go_roundg (ts.length - 1)
        case measure =>
          have : gk = ts.length - 0 := hgkH
          omega
        case rel =>
          exact ⟨1, x, by go_num, by omega, Or.inr hb2, Or.inr ⟨by omega, hj⟩, rfl, bs_over (hfr.same (Fr.alloc _ _ _)) f2 (Nat.le_refl _) (Nat.le_refl _)⟩
      · have hj : Hidden (acc ++ [32] ++ x ++ tailJ (ts.drop (i + 1)) = J) := by
          show _ = _
          rw [← hacc, hdr]
          simp [tailJ]
        have hxl : acc.length + 1 + x.length ≤ J.length := by rw [← (show _ = J from hj)]; simp only [List.length_append, List.length_cons, List.length_nil]; omega
        have kb := wbyte_any w.heap.size w.heap.size acc 32 _ hbd1 (by omega) (by simp; omega)
        have kw : ∀ W, Bld w.heap.size w.heap.size (acc ++ [32]) W → w.heap.size ≤ W.heap.size → _ := fun W hb hs => wstr_any w.heap.size w.heap.size (acc ++ [32]) x W hb (by rw [List.length_append]; simp; omega) hs
        have hpos : decide (0 < (i : Int)) = true := by simp; omega
        clear hdr hJ hacc
        go_wp2_with (first
          | (go_at_call 25; refine kb.mono ?_; rintro e W2 ⟨rfl, hb2, f2⟩
             have ha2 : Hidden (W2.heap[wr.heap.size]? = some (.cells #[.int .i64 (k : Int), .string ⟨x.toArray⟩, .int .i64 ty, .int .u64 b, .int .i64 (p : Int)] 45 (0, 0))) := f2.heap ha0 (fun h => by
               rcases h with h | ⟨_, cur, fr, h⟩
               · have := hbd.lt; omega
               · rw [show _ = _ from ha0] at h; simp at h)
             have e2 : W2.cell? ⟨wr.heap.size, 1, none⟩ = some (.string ⟨x.toArray⟩) := cell_of_row _ _ 1 _ _ _ ha2)
          | (go_at_call 26; refine (kw _ (Or.inr hb2) (by have := f2.size; simp at this; omega)).mono ?_; rintro e W3 ⟨rfl, hb3, f3⟩))
        go_roundg (ts.length - (i + 1))
        case measure =>
          have : gk = ts.length - i := hgkH
          omega
        case rel =>
          exact ⟨i + 1, acc ++ [32] ++ x, by go_num, by omega, Or.inr hb3, Or.inr ⟨by omega, hj⟩, rfl, bs_over (bs_over (hfr.same (Fr.alloc _ _ _)) f2 (Nat.le_refl _) (Nat.le_refl _)) f3 (Nat.le_refl _) (Nat.le_refl _)⟩
    · obtain rfl : i = ts.length := by omega
      have hJ2 : acc = J := by
        rcases hac with ⟨h0, rfl⟩ | ⟨h0, h1⟩
        · have : ts = [] := List.eq_nil_of_length_eq_zero h0
          rw [← (show joinS ts = J from hJ), this]
          rfl
        · rw [List.drop_length] at h1
          simpa [tailJ] using h1
      subst hJ2
      have ks := Tryd.Builder_String_any w.heap.size w.heap.size acc wr hbd hsz
      clear hac hJ
      go_wp2_with (go_at_call 27; refine ks.mono ?_; rintro e W2 ⟨rfl, hb2⟩)
      go_ret
      exact ⟨rfl, hfr.over (fr_below (S := fun k => w.heap.size ≤ k) hb2 (fun k h => h)) (fun k h => h)⟩
end Go.Proofs.YtdhiombagbiffaaDoor
