/- The document's bytes of one value, of any kind. -/
import Derived.Test.YtflemhekoffpoaaWiRef2
import Derived.Test.YtflemhekoffpoaaWiWrite
namespace Go.Proofs.Ytflemhekoffpoaa
open Go.RowKit
set_option linter.unusedSimpArgs false
set_option linter.unusedVariables false

theorem Made.of_alloc {w w' : World} {o : Obj} {v : Value} {l : List UInt8} (h : Made (w.alloc o) w' v l) : Made w w' v l := by
  refine ⟨?_, (Fr.alloc _ w o).same h.2⟩
  obtain ⟨h1, ao, len, cap, rfl, h2⟩ := h.1
  refine ⟨h1, ao, len, cap, rfl, ?_⟩
  rcases h2 with h2 | ⟨g, off, e, hB, rest⟩
  · exact Or.inl h2
  · exact Or.inr ⟨g, off, e, by simp at hB; omega, rest⟩

/-- Sizes that the document's bytes have room for. -/
structure OpD.Fit (o : OpD) : Prop where
  s : o.s.length ≤ 140737488351232
  ts : ∀ x ∈ o.t, x.length ≤ 140737488351232
  all : (opS o).length ≤ 140737488355328

set_option maxHeartbeats 800000 in
theorem bytes_1 (lv tv : Value) (N : Nat) (s : List UInt8) (l : List Int) (t : List (List UInt8)) (mo lo : Int) (w : World) (hl : ∃ a b c, lv = .slice a b c) (ht : ∃ a b c, tv = .slice a b c) :
    Calls Try.prog 9 #[opv 1 N s lv tv mo lo] w fun e w' => ∃ v, e = .returned v ∧ Made w w' v (opS ⟨1, N, s, l, t, mo, lo⟩) := by
  have eo : opS ⟨1, N, s, l, t, mo, lo⟩ = [UInt8.ofNat N] := by simp [opS]
  rw [eo]
  obtain ⟨a1, b1, c1, rfl⟩ := hl
  obtain ⟨a2, b2, c2, rfl⟩ := ht
  clear eo
  have hm : Hidden (∀ o : Obj, Made (w.alloc o) ((w.alloc o).alloc (.cells #[.int .u8 ((N : Int) % 256)] 5)) (.slice (some ⟨w.heap.size + 1, 0, none⟩) 1 1) [UInt8.ofNat N]) := by
    intro o
    have := Made.one (w.alloc o) (UInt8.ofNat N)
    rw [World.size_alloc] at this
    simpa using this
  unfold opv
  go_enter Try.func9, Try.ntmps9
  go_wp2
  go_ret
  exact ⟨_, rfl, Made.of_alloc (hm _)⟩

set_option maxHeartbeats 800000 in
theorem bytes_2 (lv tv : Value) (N : Nat) (s : List UInt8) (l : List Int) (t : List (List UInt8)) (mo lo : Int) (w : World) (ok : (⟨2, N, s, l, t, mo, lo⟩ : OpD).Ok) (fit : (⟨2, N, s, l, t, mo, lo⟩ : OpD).Fit)
    (hl : Sl w lv (l.map fun x => .int .i64 x)) (ht : Sl w tv (t.map sv)) :
    Calls Try.prog 9 #[opv 2 N s lv tv mo lo] w fun e w' => ∃ v, e = .returned v ∧ Made w w' v (opS ⟨2, N, s, l, t, mo, lo⟩) := by
  have hlk : ∀ o : Obj, Sl (w.alloc o) lv (l.map fun x => .int .i64 x) := fun o => hl.keep (Fr.alloc (fun _ => False) w o) (fun _ _ f => f)
  have htk : ∀ o : Obj, Sl (w.alloc o) tv (t.map sv) := fun o => ht.keep (Fr.alloc (fun _ => False) w o) (fun _ _ f => f)
  have eo : opS ⟨2, N, s, l, t, mo, lo⟩ = [par N] := by simp [opS]
  have hall := fit.all
  have hss := fit.s
  have hts := fit.ts
  have hN := ok.n
  simp only at hN hss hts
  rw [eo] at hall ⊢
  have kk := fun (o : Obj) (b : Bool) => rbool_any b (w.alloc o)
  obtain ⟨a1, b1, c1, rfl⟩ := hl.shape
  obtain ⟨a2, b2, c2, rfl⟩ := ht.shape
  clear hlk htk hl ht eo ok fit hall hss hts
  unfold opv
  go_enter Try.func9, Try.ntmps9
  go_wp2_with (go_at_call 32; refine (kk _ _).mono ?_; rintro e w' ⟨v, rfl, hm⟩)
  go_ret
  refine ⟨_, rfl, ?_⟩
  have := hm.of_alloc
  have e : (if ((N : Int) % 2 == 1) = true then (1 : UInt8) else 0) = par N := by
    unfold par
    by_cases h : N % 2 = 1
    · rw [if_pos h, if_pos (by simp; omega)]
    · rw [if_neg h, if_neg (by simp; omega)]
  rw [e] at this
  exact this

set_option maxHeartbeats 800000 in
theorem bytes_3 (lv tv : Value) (N : Nat) (s : List UInt8) (l : List Int) (t : List (List UInt8)) (mo lo : Int) (w : World) (ok : (⟨3, N, s, l, t, mo, lo⟩ : OpD).Ok) (fit : (⟨3, N, s, l, t, mo, lo⟩ : OpD).Fit)
    (hl : Sl w lv (l.map fun x => .int .i64 x)) (ht : Sl w tv (t.map sv)) :
    Calls Try.prog 9 #[opv 3 N s lv tv mo lo] w fun e w' => ∃ v, e = .returned v ∧ Made w w' v (opS ⟨3, N, s, l, t, mo, lo⟩) := by
  have hlk : ∀ o : Obj, Sl (w.alloc o) lv (l.map fun x => .int .i64 x) := fun o => hl.keep (Fr.alloc (fun _ => False) w o) (fun _ _ f => f)
  have htk : ∀ o : Obj, Sl (w.alloc o) tv (t.map sv) := fun o => ht.keep (Fr.alloc (fun _ => False) w o) (fun _ _ f => f)
  have eo : opS ⟨3, N, s, l, t, mo, lo⟩ = beS N 2 := by simp [opS]
  have hall := fit.all
  have hss := fit.s
  have hts := fit.ts
  have hN := ok.n
  simp only at hN hss hts
  rw [eo] at hall ⊢
  have kk := fun (o : Obj) (x : Int) => rshort_any x (w.alloc o)
  obtain ⟨a1, b1, c1, rfl⟩ := hl.shape
  obtain ⟨a2, b2, c2, rfl⟩ := ht.shape
  clear hlk htk hl ht eo ok fit hall hss hts
  unfold opv
  go_enter Try.func9, Try.ntmps9
  go_wp2_with (go_at_call 33; refine (kk _ _).mono ?_; rintro e w' ⟨v, rfl, hm⟩)
  go_ret
  refine ⟨_, rfl, ?_⟩
  have := hm.of_alloc
  rw [u64_wrap N hN] at this
  · exact this
  · simp only [wrap64]
    omega

set_option maxHeartbeats 800000 in
theorem bytes_4 (lv tv : Value) (N : Nat) (s : List UInt8) (l : List Int) (t : List (List UInt8)) (mo lo : Int) (w : World) (ok : (⟨4, N, s, l, t, mo, lo⟩ : OpD).Ok) (fit : (⟨4, N, s, l, t, mo, lo⟩ : OpD).Fit)
    (hl : Sl w lv (l.map fun x => .int .i64 x)) (ht : Sl w tv (t.map sv)) :
    Calls Try.prog 9 #[opv 4 N s lv tv mo lo] w fun e w' => ∃ v, e = .returned v ∧ Made w w' v (opS ⟨4, N, s, l, t, mo, lo⟩) := by
  have hlk : ∀ o : Obj, Sl (w.alloc o) lv (l.map fun x => .int .i64 x) := fun o => hl.keep (Fr.alloc (fun _ => False) w o) (fun _ _ f => f)
  have htk : ∀ o : Obj, Sl (w.alloc o) tv (t.map sv) := fun o => ht.keep (Fr.alloc (fun _ => False) w o) (fun _ _ f => f)
  have eo : opS ⟨4, N, s, l, t, mo, lo⟩ = beS (N % 2147483648) 4 := by simp [opS]
  have hall := fit.all
  have hss := fit.s
  have hts := fit.ts
  have hN := ok.n
  simp only at hN hss hts
  rw [eo] at hall ⊢
  have kk := fun (o : Obj) (x : Int) => rint_any x (w.alloc o)
  obtain ⟨a1, b1, c1, rfl⟩ := hl.shape
  obtain ⟨a2, b2, c2, rfl⟩ := ht.shape
  clear hlk htk hl ht eo ok fit hall hss hts
  unfold opv
  go_enter Try.func9, Try.ntmps9
  go_wp2_with (go_at_call 34; refine (kk _ _).mono ?_; rintro e w' ⟨v, rfl, hm⟩)
  go_ret
  refine ⟨_, rfl, ?_⟩
  have := hm.of_alloc
  rw [i31, u64_wrap N hN] at this
  · exact this
  · simp only [wrap64]
    omega

set_option maxHeartbeats 800000 in
theorem bytes_5 (lv tv : Value) (N : Nat) (s : List UInt8) (l : List Int) (t : List (List UInt8)) (mo lo : Int) (w : World) (ok : (⟨5, N, s, l, t, mo, lo⟩ : OpD).Ok) (fit : (⟨5, N, s, l, t, mo, lo⟩ : OpD).Fit)
    (hl : Sl w lv (l.map fun x => .int .i64 x)) (ht : Sl w tv (t.map sv)) :
    Calls Try.prog 9 #[opv 5 N s lv tv mo lo] w fun e w' => ∃ v, e = .returned v ∧ Made w w' v (opS ⟨5, N, s, l, t, mo, lo⟩) := by
  have hlk : ∀ o : Obj, Sl (w.alloc o) lv (l.map fun x => .int .i64 x) := fun o => hl.keep (Fr.alloc (fun _ => False) w o) (fun _ _ f => f)
  have htk : ∀ o : Obj, Sl (w.alloc o) tv (t.map sv) := fun o => ht.keep (Fr.alloc (fun _ => False) w o) (fun _ _ f => f)
  have eo : opS ⟨5, N, s, l, t, mo, lo⟩ = beS N 8 := by simp [opS]
  have hall := fit.all
  have hss := fit.s
  have hts := fit.ts
  have hN := ok.n
  simp only at hN hss hts
  rw [eo] at hall ⊢
  have kk := fun (o : Obj) => (rlong_any N (w.alloc o) hN).mono (R' := fun e w' => ∃ v, e = .returned v ∧ Made (w.alloc o) w' v (beS N 8)) (by rintro e w' ⟨ao, cap, rfl, _, _, h⟩; exact ⟨_, rfl, h⟩)
  obtain ⟨a1, b1, c1, rfl⟩ := hl.shape
  obtain ⟨a2, b2, c2, rfl⟩ := ht.shape
  clear hlk htk hl ht eo ok fit hall hss hts
  unfold opv
  go_enter Try.func9, Try.ntmps9
  go_wp2_with (go_at_call 35; refine (kk _).mono ?_; rintro e w' ⟨v, rfl, hm⟩)
  go_ret
  refine ⟨_, rfl, ?_⟩
  exact hm.of_alloc

set_option maxHeartbeats 800000 in
theorem bytes_6 (lv tv : Value) (N : Nat) (s : List UInt8) (l : List Int) (t : List (List UInt8)) (mo lo : Int) (w : World) (ok : (⟨6, N, s, l, t, mo, lo⟩ : OpD).Ok) (fit : (⟨6, N, s, l, t, mo, lo⟩ : OpD).Fit)
    (hl : Sl w lv (l.map fun x => .int .i64 x)) (ht : Sl w tv (t.map sv)) :
    Calls Try.prog 9 #[opv 6 N s lv tv mo lo] w fun e w' => ∃ v, e = .returned v ∧ Made w w' v (opS ⟨6, N, s, l, t, mo, lo⟩) := by
  have hlk : ∀ o : Obj, Sl (w.alloc o) lv (l.map fun x => .int .i64 x) := fun o => hl.keep (Fr.alloc (fun _ => False) w o) (fun _ _ f => f)
  have htk : ∀ o : Obj, Sl (w.alloc o) tv (t.map sv) := fun o => ht.keep (Fr.alloc (fun _ => False) w o) (fun _ _ f => f)
  have eo : opS ⟨6, N, s, l, t, mo, lo⟩ = rawS s := by simp [opS]
  have hall := fit.all
  have hss := fit.s
  have hts := fit.ts
  have hN := ok.n
  simp only at hN hss hts
  rw [eo] at hall ⊢
  have kk := fun (o : Obj) => rtext_any s (w.alloc o) hss
  obtain ⟨a1, b1, c1, rfl⟩ := hl.shape
  obtain ⟨a2, b2, c2, rfl⟩ := ht.shape
  clear hlk htk hl ht eo ok fit hall hss hts
  unfold opv
  go_enter Try.func9, Try.ntmps9
  go_wp2_with (go_at_call 36; refine (kk _).mono ?_; rintro e w' ⟨v, rfl, hm⟩)
  go_ret
  refine ⟨_, rfl, ?_⟩
  exact hm.of_alloc

set_option maxHeartbeats 800000 in
theorem bytes_7 (lv tv : Value) (N : Nat) (s : List UInt8) (l : List Int) (t : List (List UInt8)) (mo lo : Int) (w : World) (ok : (⟨7, N, s, l, t, mo, lo⟩ : OpD).Ok) (fit : (⟨7, N, s, l, t, mo, lo⟩ : OpD).Fit)
    (hl : Sl w lv (l.map fun x => .int .i64 x)) (ht : Sl w tv (t.map sv)) :
    Calls Try.prog 9 #[opv 7 N s lv tv mo lo] w fun e w' => ∃ v, e = .returned v ∧ Made w w' v (opS ⟨7, N, s, l, t, mo, lo⟩) := by
  have hlk : ∀ o : Obj, Sl (w.alloc o) lv (l.map fun x => .int .i64 x) := fun o => hl.keep (Fr.alloc (fun _ => False) w o) (fun _ _ f => f)
  have htk : ∀ o : Obj, Sl (w.alloc o) tv (t.map sv) := fun o => ht.keep (Fr.alloc (fun _ => False) w o) (fun _ _ f => f)
  have eo : opS ⟨7, N, s, l, t, mo, lo⟩ = rawS s := by simp [opS]
  have hall := fit.all
  have hss := fit.s
  have hts := fit.ts
  have hN := ok.n
  simp only at hN hss hts
  rw [eo] at hall ⊢
  have hcv : ∀ o : Obj, (convert 9 24 (.string ⟨s.toArray⟩)).run Try.prog (w.alloc o) = .ok (.slice (some ⟨w.heap.size + 1, 0, none⟩) s.length (bcap (w.alloc o) s)) (bconv (w.alloc o) s) := fun o => by have := run_conv (w.alloc o) s; rw [World.size_alloc] at this; exact this
  have kk := fun (o : Obj) => rraw_any (.slice (some ⟨w.heap.size + 1, 0, none⟩) s.length (bcap (w.alloc o) s)) s (bconv (w.alloc o) s) hss (by have := bconv_sl (w.alloc o) s ok.s; rw [World.size_alloc] at this; exact this)
  obtain ⟨a1, b1, c1, rfl⟩ := hl.shape
  obtain ⟨a2, b2, c2, rfl⟩ := ht.shape
  clear hlk htk hl ht eo ok fit hall hss hts
  unfold opv
  go_enter Try.func9, Try.ntmps9
  go_wp2_with (go_at_call 37; refine (kk _).mono ?_; rintro e w' ⟨v, rfl, hm⟩)
  go_ret
  refine ⟨_, rfl, ?_⟩
  refine Made.of_alloc (o := .cells #[.int .i64 7, .int .u64 (N : Int), .string ⟨s.toArray⟩, .slice a1 b1 c1, .slice a2 b2 c2, .int .i64 mo, .int .i64 lo] 32) ⟨?_, (bconv_fr _ _ s).same hm.2⟩
  obtain ⟨h1, ao, len, cap, rfl, h2⟩ := hm.1
  refine ⟨h1, ao, len, cap, rfl, ?_⟩
  rcases h2 with h2 | ⟨g, off, e, hB, rest⟩
  · exact Or.inl h2
  · exact Or.inr ⟨g, off, e, by rw [bconv_size] at hB; omega, rest⟩

set_option maxHeartbeats 800000 in
theorem bytes_8 (lv tv : Value) (N : Nat) (s : List UInt8) (l : List Int) (t : List (List UInt8)) (mo lo : Int) (w : World) (ok : (⟨8, N, s, l, t, mo, lo⟩ : OpD).Ok) (fit : (⟨8, N, s, l, t, mo, lo⟩ : OpD).Fit)
    (hl : Sl w lv (l.map fun x => .int .i64 x)) (ht : Sl w tv (t.map sv)) :
    Calls Try.prog 9 #[opv 8 N s lv tv mo lo] w fun e w' => ∃ v, e = .returned v ∧ Made w w' v (opS ⟨8, N, s, l, t, mo, lo⟩) := by
  have hlk : ∀ o : Obj, Sl (w.alloc o) lv (l.map fun x => .int .i64 x) := fun o => hl.keep (Fr.alloc (fun _ => False) w o) (fun _ _ f => f)
  have htk : ∀ o : Obj, Sl (w.alloc o) tv (t.map sv) := fun o => ht.keep (Fr.alloc (fun _ => False) w o) (fun _ _ f => f)
  have eo : opS ⟨8, N, s, l, t, mo, lo⟩ = intsS l := by simp [opS]
  have hall := fit.all
  have hss := fit.s
  have hts := fit.ts
  have hN := ok.n
  simp only at hN hss hts
  rw [eo] at hall ⊢
  have kk := fun (o : Obj) => rints_any lv l _ rfl (w.alloc o) hall ok.l (hlk o)
  obtain ⟨a1, b1, c1, rfl⟩ := hl.shape
  obtain ⟨a2, b2, c2, rfl⟩ := ht.shape
  clear hlk htk hl ht eo ok fit hall hss hts
  unfold opv
  go_enter Try.func9, Try.ntmps9
  go_wp2_with (go_at_call 38; refine (kk _).mono ?_; rintro e w' ⟨v, rfl, hm⟩)
  go_ret
  refine ⟨_, rfl, ?_⟩
  exact hm.of_alloc

set_option maxHeartbeats 800000 in
theorem bytes_9 (lv tv : Value) (N : Nat) (s : List UInt8) (l : List Int) (t : List (List UInt8)) (mo lo : Int) (w : World) (ok : (⟨9, N, s, l, t, mo, lo⟩ : OpD).Ok) (fit : (⟨9, N, s, l, t, mo, lo⟩ : OpD).Fit)
    (hl : Sl w lv (l.map fun x => .int .i64 x)) (ht : Sl w tv (t.map sv)) :
    Calls Try.prog 9 #[opv 9 N s lv tv mo lo] w fun e w' => ∃ v, e = .returned v ∧ Made w w' v (opS ⟨9, N, s, l, t, mo, lo⟩) := by
  have hlk : ∀ o : Obj, Sl (w.alloc o) lv (l.map fun x => .int .i64 x) := fun o => hl.keep (Fr.alloc (fun _ => False) w o) (fun _ _ f => f)
  have htk : ∀ o : Obj, Sl (w.alloc o) tv (t.map sv) := fun o => ht.keep (Fr.alloc (fun _ => False) w o) (fun _ _ f => f)
  have eo : opS ⟨9, N, s, l, t, mo, lo⟩ = textsS t := by simp [opS]
  have hall := fit.all
  have hss := fit.s
  have hts := fit.ts
  have hN := ok.n
  simp only at hN hss hts
  rw [eo] at hall ⊢
  have kk := fun (o : Obj) => rtexts_any tv t _ rfl (w.alloc o) hall hts ok.t (htk o)
  obtain ⟨a1, b1, c1, rfl⟩ := hl.shape
  obtain ⟨a2, b2, c2, rfl⟩ := ht.shape
  clear hlk htk hl ht eo ok fit hall hss hts
  unfold opv
  go_enter Try.func9, Try.ntmps9
  go_wp2_with (go_at_call 39; refine (kk _).mono ?_; rintro e w' ⟨v, rfl, hm⟩)
  go_ret
  refine ⟨_, rfl, ?_⟩
  exact hm.of_alloc

set_option maxHeartbeats 800000 in
theorem bytes_0 (lv tv : Value) (k : Int) (N : Nat) (s : List UInt8) (mo lo : Int) (w : World) (h1 : (k == 1) = false) (h2 : (k == 2) = false) (h3 : (k == 3) = false) (h4 : (k == 4) = false) (h5 : (k == 5) = false) (h6 : (k == 6) = false) (h7 : (k == 7) = false) (h8 : (k == 8) = false) (h9 : (k == 9) = false)
    (hl : ∃ a b c, lv = .slice a b c) (ht : ∃ a b c, tv = .slice a b c) :
    Calls Try.prog 9 #[opv k N s lv tv mo lo] w fun e w' => e = .returned (.slice none 0 0) ∧ w' = w.alloc (.cells #[.int .i64 k, .int .u64 (N : Int), .string ⟨s.toArray⟩, lv, tv, .int .i64 mo, .int .i64 lo] 32) := by
  obtain ⟨a1, b1, c1, rfl⟩ := hl
  obtain ⟨a2, b2, c2, rfl⟩ := ht
  unfold opv
  go_enter Try.func9, Try.ntmps9
  go_wp2
  go_ret
  exact ⟨rfl, rfl⟩

theorem bytes_any (v : Value) (o : OpD) (lv tv : Value) (w : World) (ho : OpIs w v o lv tv) (fit : o.Fit) :
    Calls Try.prog 9 #[v] w fun e w' => ∃ v, e = .returned v ∧ Made w w' v (opS o) := by
  obtain ⟨rfl, hl, ht, ok⟩ := ho
  obtain ⟨k, N, s, l, t, mo, lo⟩ := o
  by_cases e1 : k = 1
  · subst e1
    exact bytes_1 lv tv N s l t mo lo w hl.shape ht.shape
  by_cases e2 : k = 2
  · subst e2
    exact bytes_2 lv tv N s l t mo lo w ok fit hl ht
  by_cases e3 : k = 3
  · subst e3
    exact bytes_3 lv tv N s l t mo lo w ok fit hl ht
  by_cases e4 : k = 4
  · subst e4
    exact bytes_4 lv tv N s l t mo lo w ok fit hl ht
  by_cases e5 : k = 5
  · subst e5
    exact bytes_5 lv tv N s l t mo lo w ok fit hl ht
  by_cases e6 : k = 6
  · subst e6
    exact bytes_6 lv tv N s l t mo lo w ok fit hl ht
  by_cases e7 : k = 7
  · subst e7
    exact bytes_7 lv tv N s l t mo lo w ok fit hl ht
  by_cases e8 : k = 8
  · subst e8
    exact bytes_8 lv tv N s l t mo lo w ok fit hl ht
  by_cases e9 : k = 9
  · subst e9
    exact bytes_9 lv tv N s l t mo lo w ok fit hl ht
  have e : opS ⟨k, N, s, l, t, mo, lo⟩ = [] := by simp [opS, *]
  rw [e]
  refine (bytes_0 lv tv k N s mo lo w (by simpa using e1) (by simpa using e2) (by simpa using e3) (by simpa using e4) (by simpa using e5) (by simpa using e6) (by simpa using e7) (by simpa using e8) (by simpa using e9) hl.shape ht.shape).mono ?_
  rintro e w' ⟨rfl, rfl⟩
  exact ⟨_, rfl, Ow.nil _ _, Fr.alloc _ _ _⟩
end Go.Proofs.Ytflemhekoffpoaa
