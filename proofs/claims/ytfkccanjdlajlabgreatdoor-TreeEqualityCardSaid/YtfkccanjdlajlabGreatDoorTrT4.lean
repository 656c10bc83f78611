/- The program writes an expression of each kind; exprText. -/
import Derived.Test.YtfkccanjdlajlabGreatDoorTrT3
import Derived.Deep.RegionHeld3
namespace Go.Proofs.YtfkccanjdlajlabGreatDoor
open Go.RowKit Te
set_option linter.unusedSimpArgs false
set_option linter.unusedVariables false

theorem len_nil {k : Exs} (h : k.len = 0) : k = .nil := by
  cases k with
  | nil => rfl
  | cons h' k' r' => simp [Exs.len] at h
theorem bare_eq (h : EH) (k : Exs) : bare txS h k = pre txS h ++ txK txS h true k ++ post h := rfl
theorem txK_nil (h : EH) (f : Bool) : txK txS h f .nil = [] := rfl
theorem app_le {a b T : Bs} (h : a ++ b = T) (hl : T.length ≤ 140737488355328) : a.length ≤ 140737488355328 := by
  rw [← h, List.length_append] at hl
  omega
set_option maxRecDepth 20000 in
set_option maxHeartbeats 4000000 in
theorem one_1 (vt vb : Int) (mod name : Bs) (k : Exs) (ih : ∀ h' k', k'.size < k.size → WX h' k') (acc T : Bs) (w0 w : World) (B b : Nat) (ao : Option Addr) (cap : Nat) (hx : OkX k) (hsl : ShL k) (h1 : k.len = 1)
    (hk : ExL w0 ao cap k) (ht : F.Tab w0) (hw : Wr w0 B b acc w) (hT : Hidden (acc ++ bare txS ⟨6, 1, mod, name, vt, vb⟩ k = T)) (hl : T.length ≤ 140737488355328) :
    Calls Tryz.prog 100 #[bp b, exV ⟨6, 1, mod, name, vt, vb⟩ (.slice ao k.len cap)] w fun e w' => e = .returned (.tuple #[]) ∧ Wrote w0 B b T w w' := by
  have hmax : cap ≤ 9223372036854775807 := by have := hk.2.1; unfold maxLen at this; omega
  have hcap := hk.1
  have f0 := Fr.alloc (fun _ => False) w (exB ⟨6, 1, mod, name, vt, vb⟩ ao k.len cap)
  have hbx : Hidden ((w.alloc (exB ⟨6, 1, mod, name, vt, vb⟩ ao k.len cap)).heap[w.heap.size]? = some (exB ⟨6, 1, mod, name, vt, vb⟩ ao k.len cap)) := alloc_new _ _
  have hne := ne_bld hw.bld
  have hw1 := hw.quiet f0
  cases k with
  | nil => simp [Exs.len] at h1
  | cons h' k' r' =>
    obtain rfl : r' = .nil := len_nil (by simp only [Exs.len] at h1; omega)
    obtain ⟨ok1, ok2, ok3⟩ := hx
    obtain ⟨sh1, sh2, sh3⟩ := hsl
    have hT2 : Hidden (acc ++ [45] ++ txA txS h' k' 6 = T) := by
      show _ = T
      rw [← (show _ = T from hT)]
      rw [bare_eq, txK_cons, txK_nil]
      simp [pre, post, kidL]
    have hlk := app_le (show _ = T from hT2) hl
    have kk := fun (w1 : World) (h1 : Wr w0 B b (acc ++ [45]) w1) => kid_w ⟨6, 1, mod, name, vt, vb⟩ 1 h' k' .nil (ih h' k' (by simp [Exs.size])) 0 (by omega) (acc ++ [45]) w0 w1 B b ao cap (by simpa [Exs.len] using hcap) hmax ok1 ok2 sh1 sh2 hk.rest ht h1 (by rw [show kidL _ (decide (0 = 0)) = 6 by simp [kidL], show _ = T from hT2]; exact hl)
    rw [show kidL _ (decide (0 = 0)) = 6 by simp [kidL], show _ = T from hT2] at kk
    clear hT hT2
    simp only [Exs.len, Nat.zero_add] at hbx f0 hw1 hcap ⊢
    go_enter Tryz.func100, Tryz.ntmps100
    go_wp2_with fail
    go_at_call 77
    refine (wr_byte w0 B b acc 45 45 rfl _ hw1 hlk).mono ?_
    rintro e w2 ⟨rfl, h2, f2⟩
    obtain ⟨c0, c1, c2, c3, c4, c5, c6⟩ := ex_box (bs_keep f2 hbx hne (by decide))
    go_wp2_with fail
    go_at_call 101
    refine (kk _ h2).mono ?_
    rintro e w3 ⟨rfl, h3, f3⟩
    go_wp2_with fail
    go_end0
    exact ⟨rfl, h3, bs_then f0 (bs_trans f2 f3)⟩
set_option maxRecDepth 20000 in
set_option maxHeartbeats 4000000 in
theorem one_2 (vt vb : Int) (mod name : Bs) (k : Exs) (ih : ∀ h' k', k'.size < k.size → WX h' k') (acc T : Bs) (w0 w : World) (B b : Nat) (ao : Option Addr) (cap : Nat) (hx : OkX k) (hsl : ShL k) (h1 : k.len = 1)
    (hk : ExL w0 ao cap k) (ht : F.Tab w0) (hw : Wr w0 B b acc w) (hT : Hidden (acc ++ bare txS ⟨6, 2, mod, name, vt, vb⟩ k = T)) (hl : T.length ≤ 140737488355328) :
    Calls Tryz.prog 100 #[bp b, exV ⟨6, 2, mod, name, vt, vb⟩ (.slice ao k.len cap)] w fun e w' => e = .returned (.tuple #[]) ∧ Wrote w0 B b T w w' := by
  have hmax : cap ≤ 9223372036854775807 := by have := hk.2.1; unfold maxLen at this; omega
  have hcap := hk.1
  have f0 := Fr.alloc (fun _ => False) w (exB ⟨6, 2, mod, name, vt, vb⟩ ao k.len cap)
  have hbx : Hidden ((w.alloc (exB ⟨6, 2, mod, name, vt, vb⟩ ao k.len cap)).heap[w.heap.size]? = some (exB ⟨6, 2, mod, name, vt, vb⟩ ao k.len cap)) := alloc_new _ _
  have hne := ne_bld hw.bld
  have hw1 := hw.quiet f0
  cases k with
  | nil => simp [Exs.len] at h1
  | cons h' k' r' =>
    obtain rfl : r' = .nil := len_nil (by simp only [Exs.len] at h1; omega)
    obtain ⟨ok1, ok2, ok3⟩ := hx
    obtain ⟨sh1, sh2, sh3⟩ := hsl
    have hT2 : Hidden (acc ++ [33] ++ txA txS h' k' 6 = T) := by
      show _ = T
      rw [← (show _ = T from hT)]
      rw [bare_eq, txK_cons, txK_nil]
      simp [pre, post, kidL]
    have hlk := app_le (show _ = T from hT2) hl
    have kk := fun (w1 : World) (h1 : Wr w0 B b (acc ++ [33]) w1) => kid_w ⟨6, 2, mod, name, vt, vb⟩ 1 h' k' .nil (ih h' k' (by simp [Exs.size])) 0 (by omega) (acc ++ [33]) w0 w1 B b ao cap (by simpa [Exs.len] using hcap) hmax ok1 ok2 sh1 sh2 hk.rest ht h1 (by rw [show kidL _ (decide (0 = 0)) = 6 by simp [kidL], show _ = T from hT2]; exact hl)
    rw [show kidL _ (decide (0 = 0)) = 6 by simp [kidL], show _ = T from hT2] at kk
    clear hT hT2
    simp only [Exs.len, Nat.zero_add] at hbx f0 hw1 hcap ⊢
    go_enter Tryz.func100, Tryz.ntmps100
    go_wp2_with fail
    go_at_call 77
    refine (wr_byte w0 B b acc 33 33 rfl _ hw1 hlk).mono ?_
    rintro e w2 ⟨rfl, h2, f2⟩
    obtain ⟨c0, c1, c2, c3, c4, c5, c6⟩ := ex_box (bs_keep f2 hbx hne (by decide))
    go_wp2_with fail
    go_at_call 101
    refine (kk _ h2).mono ?_
    rintro e w3 ⟨rfl, h3, f3⟩
    go_wp2_with fail
    go_end0
    exact ⟨rfl, h3, bs_then f0 (bs_trans f2 f3)⟩
set_option maxRecDepth 20000 in
set_option maxHeartbeats 4000000 in
theorem one_3 (vt vb : Int) (mod name : Bs) (k : Exs) (ih : ∀ h' k', k'.size < k.size → WX h' k') (acc T : Bs) (w0 w : World) (B b : Nat) (ao : Option Addr) (cap : Nat) (hx : OkX k) (hsl : ShL k)
    (hk : ExL w0 ao cap k) (ht : F.Tab w0) (hw : Wr w0 B b acc w) (hT : Hidden (acc ++ bare txS ⟨6, 3, mod, name, vt, vb⟩ k = T)) (hl : T.length ≤ 140737488355328) :
    Calls Tryz.prog 100 #[bp b, exV ⟨6, 3, mod, name, vt, vb⟩ (.slice ao k.len cap)] w fun e w' => e = .returned (.tuple #[]) ∧ Wrote w0 B b T w w' := by
  have hmax : cap ≤ 9223372036854775807 := by have := hk.2.1; unfold maxLen at this; omega
  have hcap := hk.1
  have f0 := Fr.alloc (fun _ => False) w (exB ⟨6, 3, mod, name, vt, vb⟩ ao k.len cap)
  have hbx : Hidden ((w.alloc (exB ⟨6, 3, mod, name, vt, vb⟩ ao k.len cap)).heap[w.heap.size]? = some (exB ⟨6, 3, mod, name, vt, vb⟩ ao k.len cap)) := alloc_new _ _
  have hne := ne_bld hw.bld
  have hw1 := hw.quiet f0
  have hT2 : Hidden (acc ++ [105, 110, 116] ++ [40] ++ txK txS ⟨6, 3, mod, name, vt, vb⟩ true k ++ [41] = T) := by
    show _ = T
    rw [← (show _ = T from hT)]
    simp [bare_eq, pre, post]
  have kc := call_w ⟨6, 3, mod, name, vt, vb⟩ k (by simp) [105, 110, 116] ih acc T w0 _ B b ao cap hx hsl hk ht hw1 hT2 hl
  clear hT hT2
  go_enter Tryz.func100, Tryz.ntmps100
  go_wp2_with fail
  go_at_call 99
  refine kc.mono ?_
  rintro e w3 ⟨rfl, h3, f3⟩
  go_wp2_with fail
  go_end0
  exact ⟨rfl, h3, bs_then f0 f3⟩
set_option maxRecDepth 20000 in
set_option maxHeartbeats 4000000 in
theorem one_4 (vt vb : Int) (mod name : Bs) (k : Exs) (ih : ∀ h' k', k'.size < k.size → WX h' k') (acc T : Bs) (w0 w : World) (B b : Nat) (ao : Option Addr) (cap : Nat) (hx : OkX k) (hsl : ShL k)
    (hk : ExL w0 ao cap k) (ht : F.Tab w0) (hw : Wr w0 B b acc w) (hT : Hidden (acc ++ bare txS ⟨6, 4, mod, name, vt, vb⟩ k = T)) (hl : T.length ≤ 140737488355328) :
    Calls Tryz.prog 100 #[bp b, exV ⟨6, 4, mod, name, vt, vb⟩ (.slice ao k.len cap)] w fun e w' => e = .returned (.tuple #[]) ∧ Wrote w0 B b T w w' := by
  have hmax : cap ≤ 9223372036854775807 := by have := hk.2.1; unfold maxLen at this; omega
  have hcap := hk.1
  have f0 := Fr.alloc (fun _ => False) w (exB ⟨6, 4, mod, name, vt, vb⟩ ao k.len cap)
  have hbx : Hidden ((w.alloc (exB ⟨6, 4, mod, name, vt, vb⟩ ao k.len cap)).heap[w.heap.size]? = some (exB ⟨6, 4, mod, name, vt, vb⟩ ao k.len cap)) := alloc_new _ _
  have hne := ne_bld hw.bld
  have hw1 := hw.quiet f0
  have hT2 : Hidden (acc ++ [102, 108, 111, 97, 116] ++ [40] ++ txK txS ⟨6, 4, mod, name, vt, vb⟩ true k ++ [41] = T) := by
    show _ = T
    rw [← (show _ = T from hT)]
    simp [bare_eq, pre, post]
  have kc := call_w ⟨6, 4, mod, name, vt, vb⟩ k (by simp) [102, 108, 111, 97, 116] ih acc T w0 _ B b ao cap hx hsl hk ht hw1 hT2 hl
  clear hT hT2
  go_enter Tryz.func100, Tryz.ntmps100
  go_wp2_with fail
  go_at_call 99
  refine kc.mono ?_
  rintro e w3 ⟨rfl, h3, f3⟩
  go_wp2_with fail
  go_end0
  exact ⟨rfl, h3, bs_then f0 f3⟩
set_option maxRecDepth 20000 in
set_option maxHeartbeats 4000000 in
theorem bare_1 (op vt vb : Int) (mod name : Bs) (k : Exs) (ih : ∀ h' k', k'.size < k.size → WX h' k') (acc T : Bs) (w0 w : World) (B b : Nat) (ao : Option Addr) (cap : Nat) (hx : OkX k) (hsl : ShL k) (hb0 : 0 ≤ vb) (hb1 : vb < 18446744073709551616) (h1 : vt = 1 → vb < 9223372036854775808) (h0 : k.len = 0)
    (hk : ExL w0 ao cap k) (ht : F.Tab w0) (hw : Wr w0 B b acc w) (hT : Hidden (acc ++ bare txS ⟨1, op, mod, name, vt, vb⟩ k = T)) (hl : T.length ≤ 140737488355328) :
    Calls Tryz.prog 76 #[bp b, exV ⟨1, op, mod, name, vt, vb⟩ (.slice ao k.len cap)] w fun e w' => e = .returned (.tuple #[]) ∧ Wrote w0 B b T w w' := by
  have hmax : cap ≤ 9223372036854775807 := by have := hk.2.1; unfold maxLen at this; omega
  have hcap := hk.1
  have f0 := Fr.alloc (fun _ => False) w (exB ⟨1, op, mod, name, vt, vb⟩ ao k.len cap)
  have hbx : Hidden ((w.alloc (exB ⟨1, op, mod, name, vt, vb⟩ ao k.len cap)).heap[w.heap.size]? = some (exB ⟨1, op, mod, name, vt, vb⟩ ao k.len cap)) := alloc_new _ _
  have hne := ne_bld hw.bld
  have hw1 := hw.quiet f0
  obtain rfl : k = .nil := len_nil h0
  have kt := lit_text vt vb hb0 hb1 h1 _ (tab_fr ht hw1.fr)
  have hT2 : acc ++ txS vt vb = T := by
    rw [← (show _ = T from hT)]
    simp [bare_eq, pre, post, txK_nil]
  clear hT
  go_enter Tryz.func76, Tryz.ntmps76
  go_wp2_with fail
  go_at_call 97
  refine kt.mono ?_
  rintro e w1 ⟨rfl, f1⟩
  go_wp2_with fail
  go_at_call 82
  refine (wr_str w0 B b acc _ _ (hw1.quiet f1) (by rw [hT2]; exact hl)).mono ?_
  rw [hT2]
  rintro e w2 ⟨rfl, h2, f2⟩
  go_wp2_with fail
  go_end0
  exact ⟨rfl, h2, bs_then (f0.same f1) f2⟩
set_option maxRecDepth 20000 in
set_option maxHeartbeats 4000000 in
theorem bare_2 (op vt vb : Int) (mod name : Bs) (k : Exs) (ih : ∀ h' k', k'.size < k.size → WX h' k') (acc T : Bs) (w0 w : World) (B b : Nat) (ao : Option Addr) (cap : Nat) (hx : OkX k) (hsl : ShL k) (h0 : k.len = 0)
    (hk : ExL w0 ao cap k) (ht : F.Tab w0) (hw : Wr w0 B b acc w) (hT : Hidden (acc ++ bare txS ⟨2, op, mod, name, vt, vb⟩ k = T)) (hl : T.length ≤ 140737488355328) :
    Calls Tryz.prog 76 #[bp b, exV ⟨2, op, mod, name, vt, vb⟩ (.slice ao k.len cap)] w fun e w' => e = .returned (.tuple #[]) ∧ Wrote w0 B b T w w' := by
  have hmax : cap ≤ 9223372036854775807 := by have := hk.2.1; unfold maxLen at this; omega
  have hcap := hk.1
  have f0 := Fr.alloc (fun _ => False) w (exB ⟨2, op, mod, name, vt, vb⟩ ao k.len cap)
  have hbx : Hidden ((w.alloc (exB ⟨2, op, mod, name, vt, vb⟩ ao k.len cap)).heap[w.heap.size]? = some (exB ⟨2, op, mod, name, vt, vb⟩ ao k.len cap)) := alloc_new _ _
  have hne := ne_bld hw.bld
  have hw1 := hw.quiet f0
  obtain rfl : k = .nil := len_nil h0
  have hT2 : acc ++ name = T := by
    rw [← (show _ = T from hT)]
    simp [bare_eq, pre, post, txK_nil]
  clear hT
  go_enter Tryz.func76, Tryz.ntmps76
  go_wp2_with fail
  go_at_call 82
  refine (wr_str w0 B b acc name _ hw1 (by rw [hT2]; exact hl)).mono ?_
  rw [hT2]
  rintro e w2 ⟨rfl, h2, f2⟩
  go_wp2_with fail
  go_end0
  exact ⟨rfl, h2, bs_then f0 f2⟩
set_option maxRecDepth 20000 in
set_option maxHeartbeats 4000000 in
theorem bare_8 (op vt vb : Int) (mod name : Bs) (k : Exs) (ih : ∀ h' k', k'.size < k.size → WX h' k') (acc T : Bs) (w0 w : World) (B b : Nat) (ao : Option Addr) (cap : Nat) (hx : OkX k) (hsl : ShL k) (h0 : k.len = 0)
    (hk : ExL w0 ao cap k) (ht : F.Tab w0) (hw : Wr w0 B b acc w) (hT : Hidden (acc ++ bare txS ⟨8, op, mod, name, vt, vb⟩ k = T)) (hl : T.length ≤ 140737488355328) :
    Calls Tryz.prog 76 #[bp b, exV ⟨8, op, mod, name, vt, vb⟩ (.slice ao k.len cap)] w fun e w' => e = .returned (.tuple #[]) ∧ Wrote w0 B b T w w' := by
  have hmax : cap ≤ 9223372036854775807 := by have := hk.2.1; unfold maxLen at this; omega
  have hcap := hk.1
  have f0 := Fr.alloc (fun _ => False) w (exB ⟨8, op, mod, name, vt, vb⟩ ao k.len cap)
  have hbx : Hidden ((w.alloc (exB ⟨8, op, mod, name, vt, vb⟩ ao k.len cap)).heap[w.heap.size]? = some (exB ⟨8, op, mod, name, vt, vb⟩ ao k.len cap)) := alloc_new _ _
  have hne := ne_bld hw.bld
  have hw1 := hw.quiet f0
  obtain rfl : k = .nil := len_nil h0
  have hT2 : acc ++ [105, 110, 112, 117, 116] = T := by
    rw [← (show _ = T from hT)]
    simp [bare_eq, pre, post, txK_nil]
  clear hT
  go_enter Tryz.func76, Tryz.ntmps76
  go_wp2_with fail
  go_at_call 82
  refine (wr_str w0 B b acc [105, 110, 112, 117, 116] _ hw1 (by rw [hT2]; exact hl)).mono ?_
  rw [hT2]
  rintro e w2 ⟨rfl, h2, f2⟩
  go_wp2_with fail
  go_end0
  exact ⟨rfl, h2, bs_then f0 f2⟩
set_option maxRecDepth 20000 in
set_option maxHeartbeats 4000000 in
theorem bare_3 (op vt vb : Int) (mod name : Bs) (k : Exs) (ih : ∀ h' k', k'.size < k.size → WX h' k') (acc T : Bs) (w0 w : World) (B b : Nat) (ao : Option Addr) (cap : Nat) (hx : OkX k) (hsl : ShL k) (h0 : k.len = 0)
    (hk : ExL w0 ao cap k) (ht : F.Tab w0) (hw : Wr w0 B b acc w) (hT : Hidden (acc ++ bare txS ⟨3, op, mod, name, vt, vb⟩ k = T)) (hl : T.length ≤ 140737488355328) :
    Calls Tryz.prog 76 #[bp b, exV ⟨3, op, mod, name, vt, vb⟩ (.slice ao k.len cap)] w fun e w' => e = .returned (.tuple #[]) ∧ Wrote w0 B b T w w' := by
  have hmax : cap ≤ 9223372036854775807 := by have := hk.2.1; unfold maxLen at this; omega
  have hcap := hk.1
  have f0 := Fr.alloc (fun _ => False) w (exB ⟨3, op, mod, name, vt, vb⟩ ao k.len cap)
  have hbx : Hidden ((w.alloc (exB ⟨3, op, mod, name, vt, vb⟩ ao k.len cap)).heap[w.heap.size]? = some (exB ⟨3, op, mod, name, vt, vb⟩ ao k.len cap)) := alloc_new _ _
  have hne := ne_bld hw.bld
  have hw1 := hw.quiet f0
  have hfar : mod.length + name.length + 1 ≤ 9223372036854775807 := by
    rw [← (show _ = T from hT)] at hl
    simp only [bare_eq, pre, List.length_append] at hl
    simp at hl
    omega
  have kfar := fun w => N.far_any mod name hfar w
  obtain rfl : k = .nil := len_nil h0
  have hT2 : acc ++ (mod ++ 46 :: name) = T := by
    rw [← (show _ = T from hT)]
    simp [bare_eq, pre, post, txK_nil]
  clear hT
  go_enter Tryz.func76, Tryz.ntmps76
  go_wp2_with fail
  go_at_call 98
  refine (kfar _).mono ?_
  rintro e w1 ⟨rfl, rfl⟩
  go_wp2_with fail
  go_at_call 82
  refine (wr_str w0 B b acc (mod ++ 46 :: name) _ hw1 (by rw [hT2]; exact hl)).mono ?_
  rw [hT2]
  rintro e w2 ⟨rfl, h2, f2⟩
  go_wp2_with fail
  go_end0
  exact ⟨rfl, h2, bs_then f0 f2⟩
set_option maxRecDepth 20000 in
set_option maxHeartbeats 4000000 in
theorem bare_4 (op vt vb : Int) (mod name : Bs) (k : Exs) (ih : ∀ h' k', k'.size < k.size → WX h' k') (acc T : Bs) (w0 w : World) (B b : Nat) (ao : Option Addr) (cap : Nat) (hx : OkX k) (hsl : ShL k)
    (hk : ExL w0 ao cap k) (ht : F.Tab w0) (hw : Wr w0 B b acc w) (hT : Hidden (acc ++ bare txS ⟨4, op, mod, name, vt, vb⟩ k = T)) (hl : T.length ≤ 140737488355328) :
    Calls Tryz.prog 76 #[bp b, exV ⟨4, op, mod, name, vt, vb⟩ (.slice ao k.len cap)] w fun e w' => e = .returned (.tuple #[]) ∧ Wrote w0 B b T w w' := by
  have hmax : cap ≤ 9223372036854775807 := by have := hk.2.1; unfold maxLen at this; omega
  have hcap := hk.1
  have f0 := Fr.alloc (fun _ => False) w (exB ⟨4, op, mod, name, vt, vb⟩ ao k.len cap)
  have hbx : Hidden ((w.alloc (exB ⟨4, op, mod, name, vt, vb⟩ ao k.len cap)).heap[w.heap.size]? = some (exB ⟨4, op, mod, name, vt, vb⟩ ao k.len cap)) := alloc_new _ _
  have hne := ne_bld hw.bld
  have hw1 := hw.quiet f0
  have hT2 : Hidden (acc ++ name ++ [40] ++ txK txS ⟨4, op, mod, name, vt, vb⟩ true k ++ [41] = T) := by
    show _ = T
    rw [← (show _ = T from hT)]
    simp [bare_eq, pre, post]
  have kc := call_w ⟨4, op, mod, name, vt, vb⟩ k (by simp) name ih acc T w0 _ B b ao cap hx hsl hk ht hw1 hT2 hl
  clear hT hT2
  go_enter Tryz.func76, Tryz.ntmps76
  go_wp2_with fail
  go_at_call 99
  refine kc.mono ?_
  rintro e w3 ⟨rfl, h3, f3⟩
  go_wp2_with fail
  go_end0
  exact ⟨rfl, h3, bs_then f0 f3⟩
set_option maxRecDepth 20000 in
set_option maxHeartbeats 4000000 in
theorem bare_5 (op vt vb : Int) (mod name : Bs) (k : Exs) (ih : ∀ h' k', k'.size < k.size → WX h' k') (acc T : Bs) (w0 w : World) (B b : Nat) (ao : Option Addr) (cap : Nat) (hx : OkX k) (hsl : ShL k)
    (hk : ExL w0 ao cap k) (ht : F.Tab w0) (hw : Wr w0 B b acc w) (hT : Hidden (acc ++ bare txS ⟨5, op, mod, name, vt, vb⟩ k = T)) (hl : T.length ≤ 140737488355328) :
    Calls Tryz.prog 76 #[bp b, exV ⟨5, op, mod, name, vt, vb⟩ (.slice ao k.len cap)] w fun e w' => e = .returned (.tuple #[]) ∧ Wrote w0 B b T w w' := by
  have hmax : cap ≤ 9223372036854775807 := by have := hk.2.1; unfold maxLen at this; omega
  have hcap := hk.1
  have f0 := Fr.alloc (fun _ => False) w (exB ⟨5, op, mod, name, vt, vb⟩ ao k.len cap)
  have hbx : Hidden ((w.alloc (exB ⟨5, op, mod, name, vt, vb⟩ ao k.len cap)).heap[w.heap.size]? = some (exB ⟨5, op, mod, name, vt, vb⟩ ao k.len cap)) := alloc_new _ _
  have hne := ne_bld hw.bld
  have hw1 := hw.quiet f0
  have hfar : mod.length + name.length + 1 ≤ 9223372036854775807 := by
    rw [← (show _ = T from hT)] at hl
    simp only [bare_eq, pre, List.length_append] at hl
    simp at hl
    omega
  have kfar := fun w => N.far_any mod name hfar w
  have hT2 : Hidden (acc ++ (mod ++ 46 :: name) ++ [40] ++ txK txS ⟨5, op, mod, name, vt, vb⟩ true k ++ [41] = T) := by
    show _ = T
    rw [← (show _ = T from hT)]
    simp [bare_eq, pre, post]
  have kc := fun (w1 : World) (h1 : Wr w0 B b acc w1) => call_w ⟨5, op, mod, name, vt, vb⟩ k (by simp) (mod ++ 46 :: name) ih acc T w0 w1 B b ao cap hx hsl hk ht h1 hT2 hl
  clear hT hT2
  go_enter Tryz.func76, Tryz.ntmps76
  go_wp2_with fail
  go_region_held3 (fun w' => w'.cell? ⟨w.heap.size, 0, none⟩ = some (ci 5) ∧ w'.cell? ⟨w.heap.size, 1, none⟩ = some (ci op) ∧ w'.cell? ⟨w.heap.size, 2, none⟩ = some (ct mod) ∧ w'.cell? ⟨w.heap.size, 3, none⟩ = some (ct name) ∧ w'.cell? ⟨w.heap.size, 4, none⟩ = some (ci vt) ∧ w'.cell? ⟨w.heap.size, 5, none⟩ = some (.int .u64 vb) ∧ w'.cell? ⟨w.heap.size, 6, none⟩ = some (.slice ao k.len cap)) (go_keep) (first
    | (go_at_call 98; refine (kfar _).mono ?_; rintro e w1 ⟨rfl, rfl⟩)
    | (go_at_call 99; refine (kc _ (hw1.quiet (Fr.drew _ _))).mono ?_; rintro e w3 ⟨rfl, h3, f3⟩; obtain ⟨x0, x1, x2, x3, x4, x5, x6⟩ := ex_box (bs_keep f3 ((Fr.drew (fun _ => False) _).heap hbx (fun f => f)) hne (by decide))))
  all_goals
    go_wp2_with fail
    go_end0
    exact ⟨rfl, h3, bs_then (f0.same (Fr.drew _ _)) f3⟩
set_option maxRecDepth 20000 in
set_option maxHeartbeats 4000000 in
theorem bare_6 (op vt vb : Int) (mod name : Bs) (k : Exs) (ih : ∀ h' k', k'.size < k.size → WX h' k') (acc T : Bs) (w0 w : World) (B b : Nat) (ao : Option Addr) (cap : Nat) (hx : OkX k) (hsl : ShL k) (o1 : 1 ≤ op) (o2 : op ≤ 4) (h1 : k.len = 1)
    (hk : ExL w0 ao cap k) (ht : F.Tab w0) (hw : Wr w0 B b acc w) (hT : Hidden (acc ++ bare txS ⟨6, op, mod, name, vt, vb⟩ k = T)) (hl : T.length ≤ 140737488355328) :
    Calls Tryz.prog 76 #[bp b, exV ⟨6, op, mod, name, vt, vb⟩ (.slice ao k.len cap)] w fun e w' => e = .returned (.tuple #[]) ∧ Wrote w0 B b T w w' := by
  have hmax : cap ≤ 9223372036854775807 := by have := hk.2.1; unfold maxLen at this; omega
  have hcap := hk.1
  have f0 := Fr.alloc (fun _ => False) w (exB ⟨6, op, mod, name, vt, vb⟩ ao k.len cap)
  have hbx : Hidden ((w.alloc (exB ⟨6, op, mod, name, vt, vb⟩ ao k.len cap)).heap[w.heap.size]? = some (exB ⟨6, op, mod, name, vt, vb⟩ ao k.len cap)) := alloc_new _ _
  have hne := ne_bld hw.bld
  have hw1 := hw.quiet f0
  have kc : Calls Tryz.prog 100 #[bp b, exV ⟨6, op, mod, name, vt, vb⟩ (.slice ao k.len cap)] (w.alloc (exB ⟨6, op, mod, name, vt, vb⟩ ao k.len cap)) fun e w' => e = .returned (.tuple #[]) ∧ Wrote w0 B b T (w.alloc (exB ⟨6, op, mod, name, vt, vb⟩ ao k.len cap)) w' := by
    obtain rfl | rfl | rfl | rfl : op = 1 ∨ op = 2 ∨ op = 3 ∨ op = 4 := by omega
    · exact one_1 vt vb mod name k ih acc T w0 _ B b ao cap hx hsl h1 hk ht hw1 hT hl
    · exact one_2 vt vb mod name k ih acc T w0 _ B b ao cap hx hsl h1 hk ht hw1 hT hl
    · exact one_3 vt vb mod name k ih acc T w0 _ B b ao cap hx hsl hk ht hw1 hT hl
    · exact one_4 vt vb mod name k ih acc T w0 _ B b ao cap hx hsl hk ht hw1 hT hl
  clear hT h1 o1 o2 ih
  go_enter Tryz.func76, Tryz.ntmps76
  go_wp2_with fail
  go_at_call 100
  refine kc.mono ?_
  rintro e w3 ⟨rfl, h3, f3⟩
  go_wp2_with fail
  go_end0
  exact ⟨rfl, h3, bs_then f0 f3⟩
set_option maxRecDepth 20000 in
set_option maxHeartbeats 4000000 in
theorem bare_7 (op vt vb : Int) (mod name : Bs) (k : Exs) (ih : ∀ h' k', k'.size < k.size → WX h' k') (acc T : Bs) (w0 w : World) (B b : Nat) (ao : Option Addr) (cap : Nat) (hx : OkX k) (hsl : ShL k) (h2 : k.len = 2)
    (hk : ExL w0 ao cap k) (ht : F.Tab w0) (hw : Wr w0 B b acc w) (hT : Hidden (acc ++ bare txS ⟨7, op, mod, name, vt, vb⟩ k = T)) (hl : T.length ≤ 140737488355328) :
    Calls Tryz.prog 76 #[bp b, exV ⟨7, op, mod, name, vt, vb⟩ (.slice ao k.len cap)] w fun e w' => e = .returned (.tuple #[]) ∧ Wrote w0 B b T w w' := by
  have hmax : cap ≤ 9223372036854775807 := by have := hk.2.1; unfold maxLen at this; omega
  have hcap := hk.1
  have f0 := Fr.alloc (fun _ => False) w (exB ⟨7, op, mod, name, vt, vb⟩ ao k.len cap)
  have hbx : Hidden ((w.alloc (exB ⟨7, op, mod, name, vt, vb⟩ ao k.len cap)).heap[w.heap.size]? = some (exB ⟨7, op, mod, name, vt, vb⟩ ao k.len cap)) := alloc_new _ _
  have hne := ne_bld hw.bld
  have hw1 := hw.quiet f0
  cases k with
  | nil => simp [Exs.len] at h2
  | cons h' k' r' =>
    cases r' with
    | nil => simp [Exs.len] at h2
    | cons h'' k'' r'' =>
      obtain rfl : r'' = .nil := len_nil (by simp only [Exs.len] at h2; omega)
      obtain ⟨ok1, ok2, ok3, ok4, ok5⟩ := hx
      obtain ⟨sh1, sh2, sh3, sh4, sh5⟩ := hsl
      have hT2 : Hidden (acc ++ txA txS h' k' (kidL ⟨7, op, mod, name, vt, vb⟩ true) ++ Te.mark op ++ txA txS h'' k'' (kidL ⟨7, op, mod, name, vt, vb⟩ false) = T) := by
        show _ = T
        rw [← (show _ = T from hT)]
        rw [bare_eq, txK_cons, txK_cons, txK_nil]
        simp [pre, post, sep]
      have hl2 := app_le (show _ = T from hT2) hl
      have hl1 : (acc ++ txA txS h' k' (kidL ⟨7, op, mod, name, vt, vb⟩ true)).length ≤ 140737488355328 := by rw [List.length_append] at hl2; omega
      have k1 := kid_w ⟨7, op, mod, name, vt, vb⟩ 2 h' k' (.cons h'' k'' .nil) (ih h' k' (by simp only [Exs.size]; omega)) 0 (by omega) acc w0 _ B b ao cap (by simpa [Exs.len] using hcap) hmax ok1 ok2 sh1 sh2 hk.rest ht hw1 hl1
      have hrow2 : ExR w0 ao (0 + 1) (.cons h'' k'' .nil) := by obtain ⟨_, _, _, _, _, _, hh, _⟩ := hk.rest.next; exact hh
      have k2 := fun (w1 : World) (h1 : Wr w0 B b (acc ++ txA txS h' k' (kidL ⟨7, op, mod, name, vt, vb⟩ true) ++ Te.mark op) w1) => kid_w ⟨7, op, mod, name, vt, vb⟩ 2 h'' k'' .nil (ih h'' k'' (by simp only [Exs.size]; omega)) 1 (by omega) _ w0 w1 B b ao cap (by simpa [Exs.len] using hcap) hmax ok3 ok4 sh3 sh4 hrow2 ht h1 (by rw [show decide (1 = 0) = false by simp, show _ = T from hT2]; exact hl)
      rw [show decide (1 = 0) = false by simp, show _ = T from hT2] at k2
      have km := fun w => mark_text op _ rfl w
      clear hT hT2
      simp only [Exs.len, Nat.zero_add] at hbx f0 hw1 hcap k1 ⊢
      go_enter Tryz.func76, Tryz.ntmps76
      go_wp2_with fail
      go_at_call 101
      refine k1.mono ?_
      rintro e w1 ⟨rfl, h1, f1⟩
      have x1 := bs_keep f1 hbx hne (by decide)
      obtain ⟨c0, c1, c2, c3, c4, c5, c6⟩ := ex_box x1
      go_wp2_with fail
      go_at_call 102
      refine (km _).mono ?_
      rintro e wz ⟨rfl, rfl⟩
      go_wp2_with fail
      go_at_call 82
      refine (wr_str w0 B b _ (Te.mark op) _ h1 hl2).mono ?_
      rintro e w2 ⟨rfl, h2, f2⟩
      obtain ⟨c0, c1, c2, c3, c4, c5, c6⟩ := ex_box (bs_keep f2 x1 hne (by decide))
      go_wp2_with fail
      go_at_call 101
      refine (k2 _ h2).mono ?_
      rintro e w3 ⟨rfl, h3, f3⟩
      go_wp2_with fail
      go_end0
      exact ⟨rfl, h3, bs_then f0 (bs_trans f1 (bs_trans f2 f3))⟩
theorem bare_w (h : EH) (k : Exs) (ih : ∀ h' k', k'.size < k.size → WX h' k') (acc T : Bs) (w0 w : World) (B b : Nat) (ao : Option Addr) (cap : Nat) (ho : OkE h) (hx : OkX k) (hs : ShE h k.len) (hsl : ShL k)
    (hk : ExL w0 ao cap k) (ht : F.Tab w0) (hw : Wr w0 B b acc w) (hT : acc ++ bare txS h k = T) (hl : T.length ≤ 140737488355328) :
    Calls Tryz.prog 76 #[bp b, exV h (.slice ao k.len cap)] w fun e w' => e = .returned (.tuple #[]) ∧ Wrote w0 B b T w w' := by
  obtain ⟨kind, op, mod, name, vt, vb⟩ := h
  rcases hs with ⟨h0, h1, h2⟩ | ⟨h0, h1⟩ | ⟨h0, h1⟩ | h0 | h0 | ⟨h0, h1, h2, h3⟩ | ⟨h0, h1, h2, h3⟩ | ⟨h0, h1⟩ <;> simp only at h0 <;> subst h0
  · exact bare_1 op vt vb mod name k ih acc T w0 w B b ao cap hx hsl ho.vb0 ho.vb1 h1 h2 hk ht hw hT hl
  · exact bare_2 op vt vb mod name k ih acc T w0 w B b ao cap hx hsl h1 hk ht hw hT hl
  · exact bare_3 op vt vb mod name k ih acc T w0 w B b ao cap hx hsl h1 hk ht hw hT hl
  · exact bare_4 op vt vb mod name k ih acc T w0 w B b ao cap hx hsl hk ht hw hT hl
  · exact bare_5 op vt vb mod name k ih acc T w0 w B b ao cap hx hsl hk ht hw hT hl
  · exact bare_6 op vt vb mod name k ih acc T w0 w B b ao cap hx hsl h1 h2 h3 hk ht hw hT hl
  · exact bare_7 op vt vb mod name k ih acc T w0 w B b ao cap hx hsl h3 hk ht hw hT hl
  · exact bare_8 op vt vb mod name k ih acc T w0 w B b ao cap hx hsl h1 hk ht hw hT hl
set_option maxRecDepth 20000 in
set_option maxHeartbeats 4000000 in
theorem wx_step (h : EH) (k : Exs) (ih : ∀ h' k', k'.size < k.size → WX h' k') : WX h k := by
  intro least acc w0 w B b ao cap ho hx hs hsl hk ht hw hl
  have f0 := Fr.alloc (fun _ => False) w (exB h ao k.len cap)
  have hbx : Hidden ((w.alloc (exB h ao k.len cap)).heap[w.heap.size]? = some (exB h ao k.len cap)) := alloc_new _ _
  have hne := ne_bld hw.bld
  have klev := fun w => level_any h (.slice ao k.len cap) ⟨_, _, _, rfl⟩ _ rfl w
  by_cases hlv : level h < least
  · have e1 : txA txS h k least = 40 :: (bare txS h k ++ [41]) := by simp [txA, par, hlv]
    rw [e1] at hl ⊢
    have hT : acc ++ [40] ++ bare txS h k ++ [41] = acc ++ 40 :: (bare txS h k ++ [41]) := by simp
    have hl3 := app_le hT hl
    have hl2 := app_le (rfl : (acc ++ [40]) ++ bare txS h k = _) hl3
    have kb := fun (w1 : World) (h1 : Wr w0 B b (acc ++ [40]) w1) => bare_w h k ih (acc ++ [40]) _ w0 w1 B b ao cap ho hx hs hsl hk ht h1 rfl hl3
    have hng : ¬ least ≤ level h := by omega
    clear e1
    go_enter Tryz.func60, Tryz.ntmps60
    go_wp2_with fail
    go_at_call 72
    refine (klev _).mono ?_
    rintro e w1 ⟨rfl, f1⟩
    have x1 := f1.heap hbx (fun f => f)
    have g1 := f0.same f1
    go_wp2_with fail
    go_at_call 77
    refine (wr_byte w0 B b acc 40 40 rfl _ (hw.quiet g1) hl2).mono ?_
    rintro e w2 ⟨rfl, h2, f2⟩
    obtain ⟨c0, c1, c2, c3, c4, c5, c6⟩ := ex_box (bs_keep f2 x1 hne (by decide))
    go_wp2_with fail
    go_at_call 76
    refine (kb _ h2).mono ?_
    rintro e w3 ⟨rfl, h3, f3⟩
    go_wp2_with fail
    go_at_call 77
    refine (wr_byte w0 B b _ 41 41 rfl _ h3 (by rw [hT]; exact hl)).mono ?_
    rw [hT]
    rintro e w4 ⟨rfl, h4, f4⟩
    go_wp2_with fail
    go_end0
    exact ⟨rfl, h4, bs_then g1 (bs_trans f2 (bs_trans f3 f4))⟩
  · have e1 : txA txS h k least = bare txS h k := by simp [txA, par, hlv]
    rw [e1] at hl ⊢
    have kb := fun (w1 : World) (h1 : Wr w0 B b acc w1) => bare_w h k ih acc _ w0 w1 B b ao cap ho hx hs hsl hk ht h1 rfl hl
    have hng : least ≤ level h := by omega
    clear e1
    go_enter Tryz.func60, Tryz.ntmps60
    go_wp2_with fail
    go_at_call 72
    refine (klev _).mono ?_
    rintro e w1 ⟨rfl, f1⟩
    obtain ⟨c0, c1, c2, c3, c4, c5, c6⟩ := ex_box (f1.heap hbx (fun f => f))
    have g1 := f0.same f1
    go_wp2_with fail
    go_at_call 76
    refine (kb _ (hw.quiet g1)).mono ?_
    rintro e w3 ⟨rfl, h3, f3⟩
    go_wp2_with fail
    refine bodyPost_ret (results_none rfl _ _ _) rfl ?_
    exact ⟨rfl, h3, bs_then g1 f3⟩
theorem wx_any (h : EH) (k : Exs) : WX h k := by
  have : ∀ (n : Nat) (h : EH) (k : Exs), k.size < n → WX h k := by
    intro n
    induction n with
    | zero => intro h k hk; omega
    | succ n ih => intro h k hk; exact wx_step h k (fun h' k' hk' => ih h' k' (by omega))
  exact this (k.size + 1) h k (by omega)
set_option maxRecDepth 20000 in
theorem exprText_any (h : EH) (k : Exs) (v : Value) (w : World) (ho : OkE h) (hx : OkX k) (hs : ShE h k.len) (hsl : ShL k) (hv : ExI w h k v) (ht : F.Tab w) (hl : (txA txS h k 1).length ≤ 140737488355328) :
    Calls Tryz.prog 34 #[v] w fun e w' => e = .returned (ct (txA txS h k 1)) ∧ Fr (fun _ => False) w w' := by
  obtain ⟨ao, cap, rfl, hk⟩ := hv
  have f0 := Fr.alloc (fun _ => False) w (exB h ao k.len cap)
  have hq : Hidden ((w.alloc (exB h ao k.len cap)).heap[w.heap.size]? = some (exB h ao k.len cap)) := alloc_new _ _
  generalize hW : w.alloc (exB h ao k.len cap) = W1 at f0 hq
  have hWs : W1.heap.size = w.heap.size + 1 := by rw [← hW]; simp
  have f1 := Fr.alloc (fun _ => False) W1 (.cells #[.pointer none, .slice none 0 0] 97 (0, 0))
  have hb0 : Hidden (Bld W1.heap.size W1.heap.size [] (W1.alloc (.cells #[.pointer none, .slice none 0 0] 97 (0, 0)))) :=
    Or.inl ⟨Nat.le_refl _, _, alloc_new _ _, World.ownsRow_nil _ _ _ _, by simp [Value.ownBlock]⟩
  have kw := wx_any h k 1 [] W1 (W1.alloc (.cells #[.pointer none, .slice none 0 0] 97 (0, 0))) W1.heap.size W1.heap.size ao cap ho hx hs hsl (hk.keep f0) (tab_fr ht f0) ⟨f1, Nat.le_refl _, by simp, hb0⟩ (by simpa using hl)
  rw [List.nil_append] at kw
  obtain ⟨c0, c1, c2, c3, c4, c5, c6⟩ := ex_box (f1.heap hq (fun f => f))
  subst hW
  clear hb0 hq
  rw [hWs] at kw
  go_enter Tryz.func34, Tryz.ntmps34
  go_wp2_with fail
  go_at_call 60
  refine kw.mono ?_
  rintro e w2 ⟨rfl, h2, f2⟩
  have ks := Tryz.Builder_String_any (w.heap.size + 1) (w.heap.size + 1) (txA txS h k 1) w2 h2.bld h2.size
  go_wp2_with fail
  go_at_call 61
  refine ks.mono ?_
  rintro e w3 ⟨rfl, hb2⟩
  go_wp2_with fail
  go_ret
  exact ⟨rfl, (f0.same h2.fr).over (fr_below (S := fun k => w.heap.size + 1 ≤ k) hb2 (fun k h => h)) (fun k h => by have : w.heap.size + 1 ≤ k := h; omega)⟩
end Go.Proofs.YtfkccanjdlajlabGreatDoor
