/- The law's 'write': one value written, of any kind. -/
import Derived.Test.YtflemhekoffpoaaWiW2
namespace Go.Proofs.Ytflemhekoffpoaa
open Go.RowKit
set_option linter.unusedSimpArgs false
set_option linter.unusedVariables false

/-- A value that is written or asked for. -/
structure OpD where
  k : Int
  N : Nat
  s : List UInt8
  l : List Int
  t : List (List UInt8)
  mo : Int
  lo : Int

def opv (k : Int) (N : Nat) (s : List UInt8) (lv tv : Value) (mo lo : Int) : Value := .agg #[.int .i64 k, .int .u64 (N : Int), .string ⟨s.toArray⟩, lv, tv, .int .i64 mo, .int .i64 lo]

/-- One byte for a bool. -/
def par (N : Nat) : UInt8 := if N % 2 = 1 then 1 else 0
/-- Its bytes. -/
def opS (o : OpD) : List UInt8 :=
  if o.k = 1 then [UInt8.ofNat o.N] else if o.k = 2 then [par o.N] else if o.k = 3 then beS o.N 2 else if o.k = 4 then beS (o.N % 2147483648) 4
  else if o.k = 5 then beS o.N 8 else if o.k = 6 then rawS o.s else if o.k = 7 then rawS o.s else if o.k = 8 then intsS o.l else if o.k = 9 then textsS o.t else []

/-- Sizes that a machine holds. -/
structure OpD.Ok (o : OpD) : Prop where
  n : o.N < 18446744073709551616
  s : o.s.length ≤ 9223372036854775807
  l : o.l.length ≤ 9223372036854775807
  t : o.t.length ≤ 9223372036854775807
  ts : ∀ x ∈ o.t, x.length ≤ 9223372036854775807
  ki : -9223372036854775808 ≤ o.k ∧ o.k ≤ 9223372036854775807
  mi : -9223372036854775808 ≤ o.mo ∧ o.mo ≤ 9223372036854775807
  li : -9223372036854775808 ≤ o.lo ∧ o.lo ≤ 9223372036854775807

def OpIs (w : World) (v : Value) (o : OpD) (lv tv : Value) : Prop := v = opv o.k o.N o.s lv tv o.mo o.lo ∧ Sl w lv (o.l.map fun x => .int .i64 x) ∧ Sl w tv (o.t.map sv) ∧ o.Ok
theorem OpIs.keep {S : Nat → Prop} {w w' : World} {v lv tv : Value} {o : OpD} (h : OpIs w v o lv tv) (hf : Fr S w w') (h1 : (o.l.map fun x => Value.int .i64 x) = [] ∨ ∀ k, lv.ownBlock = some k → ¬ S k) (h2 : o.t.map sv = [] ∨ ∀ k, tv.ownBlock = some k → ¬ S k) : OpIs w' v o lv tv :=
  ⟨h.1, h.2.1.keepA hf h1, h.2.2.1.keepA hf h2, h.2.2.2⟩

theorem u64_wrap (N : Nat) (h : N < 18446744073709551616) (x : Int) (hx : x % 18446744073709551616 = (N : Int)) : u64 x = N := by
  unfold u64; omega
theorem Sl.shape {w : World} {v : Value} {xs : List Value} (h : Sl w v xs) : ∃ ao len cap, v = .slice ao len cap := by
  obtain ⟨ao, cap, rfl, _⟩ := h
  exact ⟨_, _, _, rfl⟩

set_option maxHeartbeats 800000 in
theorem write_1 (pv lv tv : Value) (N : Nat) (s : List UInt8) (l : List Int) (t : List (List UInt8)) (mo lo : Int) (bs : List UInt8) (g : Option Nat) (n : Nat) (w : World) (ok : (⟨1, N, s, l, t, mo, lo⟩ : OpD).Ok) (hw : WrO pv w bs g ((opS ⟨1, N, s, l, t, mo, lo⟩).length + n))
    (hl : Sl w lv (l.map fun x => .int .i64 x)) (ht : Sl w tv (t.map sv)) (hla : Apart (l.map fun x => .int .i64 x) lv pv g) (hta : Apart (t.map sv) tv pv g) :
    Calls Try.prog 8 #[pv, opv 1 N s lv tv mo lo] w fun e w' => e = .returned (.tuple #[]) ∧ WTo pv w g w' (bs ++ opS ⟨1, N, s, l, t, mo, lo⟩) n := by
  have hA : ∀ o : Obj, WrO pv (w.alloc o) bs g ((opS ⟨1, N, s, l, t, mo, lo⟩).length + n) := fun o => hw.alloc o
  have hlk : ∀ o : Obj, Sl (w.alloc o) lv (l.map fun x => .int .i64 x) := fun o => hl.keep (Fr.alloc (fun _ => False) w o) (fun _ _ f => f)
  have htk : ∀ o : Obj, Sl (w.alloc o) tv (t.map sv) := fun o => ht.keep (Fr.alloc (fun _ => False) w o) (fun _ _ f => f)
  have eo : opS ⟨1, N, s, l, t, mo, lo⟩ = [UInt8.ofNat N] := by simp [opS]
  rw [eo] at hA ⊢
  have hN := ok.n
  simp only at hN
  have kk := fun (o : Obj) => byte_any pv (UInt8.ofNat N) bs g n (w.alloc o) (hA o)
  obtain ⟨a1, b1, c1, rfl⟩ := hl.shape
  obtain ⟨a2, b2, c2, rfl⟩ := ht.shape
  clear hA hlk htk hw hl ht hla hta eo ok
  unfold opv
  go_enter Try.func8, Try.ntmps8
  go_wp2_with (go_at_call 23; refine (kk _).mono ?_; rintro e w' ⟨rfl, hto⟩)
  go_end0
  exact ⟨rfl, hto.of_alloc⟩

set_option maxHeartbeats 800000 in
theorem write_2 (pv lv tv : Value) (N : Nat) (s : List UInt8) (l : List Int) (t : List (List UInt8)) (mo lo : Int) (bs : List UInt8) (g : Option Nat) (n : Nat) (w : World) (ok : (⟨2, N, s, l, t, mo, lo⟩ : OpD).Ok) (hw : WrO pv w bs g ((opS ⟨2, N, s, l, t, mo, lo⟩).length + n))
    (hl : Sl w lv (l.map fun x => .int .i64 x)) (ht : Sl w tv (t.map sv)) (hla : Apart (l.map fun x => .int .i64 x) lv pv g) (hta : Apart (t.map sv) tv pv g) :
    Calls Try.prog 8 #[pv, opv 2 N s lv tv mo lo] w fun e w' => e = .returned (.tuple #[]) ∧ WTo pv w g w' (bs ++ opS ⟨2, N, s, l, t, mo, lo⟩) n := by
  have hA : ∀ o : Obj, WrO pv (w.alloc o) bs g ((opS ⟨2, N, s, l, t, mo, lo⟩).length + n) := fun o => hw.alloc o
  have hlk : ∀ o : Obj, Sl (w.alloc o) lv (l.map fun x => .int .i64 x) := fun o => hl.keep (Fr.alloc (fun _ => False) w o) (fun _ _ f => f)
  have htk : ∀ o : Obj, Sl (w.alloc o) tv (t.map sv) := fun o => ht.keep (Fr.alloc (fun _ => False) w o) (fun _ _ f => f)
  have eo : opS ⟨2, N, s, l, t, mo, lo⟩ = [par N] := by simp [opS]
  rw [eo] at hA ⊢
  have hN := ok.n
  simp only at hN
  have kk := fun (o : Obj) (b : Bool) => bool_any pv b bs g n (w.alloc o) (hA o)
  obtain ⟨a1, b1, c1, rfl⟩ := hl.shape
  obtain ⟨a2, b2, c2, rfl⟩ := ht.shape
  clear hA hlk htk hw hl ht hla hta eo ok
  unfold opv
  go_enter Try.func8, Try.ntmps8
  go_wp2_with (go_at_call 24; refine (kk _ _).mono ?_; rintro e w' ⟨rfl, hto⟩)
  go_end0
  refine ⟨rfl, ?_⟩
  have := hto.of_alloc
  have e : (if ((N : Int) % 2 == 1) = true then (1 : UInt8) else 0) = par N := by
    unfold par
    by_cases h : N % 2 = 1
    · rw [if_pos h, if_pos (by simp; omega)]
    · rw [if_neg h, if_neg (by simp; omega)]
  rw [e] at this
  exact this

set_option maxHeartbeats 800000 in
theorem write_3 (pv lv tv : Value) (N : Nat) (s : List UInt8) (l : List Int) (t : List (List UInt8)) (mo lo : Int) (bs : List UInt8) (g : Option Nat) (n : Nat) (w : World) (ok : (⟨3, N, s, l, t, mo, lo⟩ : OpD).Ok) (hw : WrO pv w bs g ((opS ⟨3, N, s, l, t, mo, lo⟩).length + n))
    (hl : Sl w lv (l.map fun x => .int .i64 x)) (ht : Sl w tv (t.map sv)) (hla : Apart (l.map fun x => .int .i64 x) lv pv g) (hta : Apart (t.map sv) tv pv g) :
    Calls Try.prog 8 #[pv, opv 3 N s lv tv mo lo] w fun e w' => e = .returned (.tuple #[]) ∧ WTo pv w g w' (bs ++ opS ⟨3, N, s, l, t, mo, lo⟩) n := by
  have hA : ∀ o : Obj, WrO pv (w.alloc o) bs g ((opS ⟨3, N, s, l, t, mo, lo⟩).length + n) := fun o => hw.alloc o
  have hlk : ∀ o : Obj, Sl (w.alloc o) lv (l.map fun x => .int .i64 x) := fun o => hl.keep (Fr.alloc (fun _ => False) w o) (fun _ _ f => f)
  have htk : ∀ o : Obj, Sl (w.alloc o) tv (t.map sv) := fun o => ht.keep (Fr.alloc (fun _ => False) w o) (fun _ _ f => f)
  have eo : opS ⟨3, N, s, l, t, mo, lo⟩ = beS N 2 := by simp [opS]
  rw [eo] at hA ⊢
  have hN := ok.n
  simp only at hN
  have kk := fun (o : Obj) (x : Int) => short_any pv x bs g n (w.alloc o) (by simpa using hA o)
  obtain ⟨a1, b1, c1, rfl⟩ := hl.shape
  obtain ⟨a2, b2, c2, rfl⟩ := ht.shape
  clear hA hlk htk hw hl ht hla hta eo ok
  unfold opv
  go_enter Try.func8, Try.ntmps8
  go_wp2_with (go_at_call 25; refine (kk _ _).mono ?_; rintro e w' ⟨rfl, hto⟩)
  go_end0
  refine ⟨rfl, ?_⟩
  have := hto.of_alloc
  rw [u64_wrap N hN] at this
  · exact this
  · simp only [wrap64]
    omega

set_option maxHeartbeats 800000 in
theorem write_4 (pv lv tv : Value) (N : Nat) (s : List UInt8) (l : List Int) (t : List (List UInt8)) (mo lo : Int) (bs : List UInt8) (g : Option Nat) (n : Nat) (w : World) (ok : (⟨4, N, s, l, t, mo, lo⟩ : OpD).Ok) (hw : WrO pv w bs g ((opS ⟨4, N, s, l, t, mo, lo⟩).length + n))
    (hl : Sl w lv (l.map fun x => .int .i64 x)) (ht : Sl w tv (t.map sv)) (hla : Apart (l.map fun x => .int .i64 x) lv pv g) (hta : Apart (t.map sv) tv pv g) :
    Calls Try.prog 8 #[pv, opv 4 N s lv tv mo lo] w fun e w' => e = .returned (.tuple #[]) ∧ WTo pv w g w' (bs ++ opS ⟨4, N, s, l, t, mo, lo⟩) n := by
  have hA : ∀ o : Obj, WrO pv (w.alloc o) bs g ((opS ⟨4, N, s, l, t, mo, lo⟩).length + n) := fun o => hw.alloc o
  have hlk : ∀ o : Obj, Sl (w.alloc o) lv (l.map fun x => .int .i64 x) := fun o => hl.keep (Fr.alloc (fun _ => False) w o) (fun _ _ f => f)
  have htk : ∀ o : Obj, Sl (w.alloc o) tv (t.map sv) := fun o => ht.keep (Fr.alloc (fun _ => False) w o) (fun _ _ f => f)
  have eo : opS ⟨4, N, s, l, t, mo, lo⟩ = beS (N % 2147483648) 4 := by simp [opS]
  rw [eo] at hA ⊢
  have hN := ok.n
  simp only at hN
  have kk := fun (o : Obj) (x : Int) => int_any pv x bs g n (w.alloc o) (by simpa using hA o)
  obtain ⟨a1, b1, c1, rfl⟩ := hl.shape
  obtain ⟨a2, b2, c2, rfl⟩ := ht.shape
  clear hA hlk htk hw hl ht hla hta eo ok
  unfold opv
  go_enter Try.func8, Try.ntmps8
  go_wp2_with (go_at_call 26; refine (kk _ _).mono ?_; rintro e w' ⟨rfl, hto⟩)
  go_end0
  refine ⟨rfl, ?_⟩
  have := hto.of_alloc
  rw [i31, u64_wrap N hN] at this
  · exact this
  · simp only [wrap64]
    omega

set_option maxHeartbeats 800000 in
theorem write_5 (pv lv tv : Value) (N : Nat) (s : List UInt8) (l : List Int) (t : List (List UInt8)) (mo lo : Int) (bs : List UInt8) (g : Option Nat) (n : Nat) (w : World) (ok : (⟨5, N, s, l, t, mo, lo⟩ : OpD).Ok) (hw : WrO pv w bs g ((opS ⟨5, N, s, l, t, mo, lo⟩).length + n))
    (hl : Sl w lv (l.map fun x => .int .i64 x)) (ht : Sl w tv (t.map sv)) (hla : Apart (l.map fun x => .int .i64 x) lv pv g) (hta : Apart (t.map sv) tv pv g) :
    Calls Try.prog 8 #[pv, opv 5 N s lv tv mo lo] w fun e w' => e = .returned (.tuple #[]) ∧ WTo pv w g w' (bs ++ opS ⟨5, N, s, l, t, mo, lo⟩) n := by
  have hA : ∀ o : Obj, WrO pv (w.alloc o) bs g ((opS ⟨5, N, s, l, t, mo, lo⟩).length + n) := fun o => hw.alloc o
  have hlk : ∀ o : Obj, Sl (w.alloc o) lv (l.map fun x => .int .i64 x) := fun o => hl.keep (Fr.alloc (fun _ => False) w o) (fun _ _ f => f)
  have htk : ∀ o : Obj, Sl (w.alloc o) tv (t.map sv) := fun o => ht.keep (Fr.alloc (fun _ => False) w o) (fun _ _ f => f)
  have eo : opS ⟨5, N, s, l, t, mo, lo⟩ = beS N 8 := by simp [opS]
  rw [eo] at hA ⊢
  have hN := ok.n
  simp only at hN
  have kk := fun (o : Obj) => long_any pv N bs g n (w.alloc o) hN (by simpa using hA o)
  obtain ⟨a1, b1, c1, rfl⟩ := hl.shape
  obtain ⟨a2, b2, c2, rfl⟩ := ht.shape
  clear hA hlk htk hw hl ht hla hta eo ok
  unfold opv
  go_enter Try.func8, Try.ntmps8
  go_wp2_with (go_at_call 27; refine (kk _).mono ?_; rintro e w' ⟨rfl, hto⟩)
  go_end0
  exact ⟨rfl, hto.of_alloc⟩

set_option maxHeartbeats 800000 in
theorem write_6 (pv lv tv : Value) (N : Nat) (s : List UInt8) (l : List Int) (t : List (List UInt8)) (mo lo : Int) (bs : List UInt8) (g : Option Nat) (n : Nat) (w : World) (ok : (⟨6, N, s, l, t, mo, lo⟩ : OpD).Ok) (hw : WrO pv w bs g ((opS ⟨6, N, s, l, t, mo, lo⟩).length + n))
    (hl : Sl w lv (l.map fun x => .int .i64 x)) (ht : Sl w tv (t.map sv)) (hla : Apart (l.map fun x => .int .i64 x) lv pv g) (hta : Apart (t.map sv) tv pv g) :
    Calls Try.prog 8 #[pv, opv 6 N s lv tv mo lo] w fun e w' => e = .returned (.tuple #[]) ∧ WTo pv w g w' (bs ++ opS ⟨6, N, s, l, t, mo, lo⟩) n := by
  have hA : ∀ o : Obj, WrO pv (w.alloc o) bs g ((opS ⟨6, N, s, l, t, mo, lo⟩).length + n) := fun o => hw.alloc o
  have hlk : ∀ o : Obj, Sl (w.alloc o) lv (l.map fun x => .int .i64 x) := fun o => hl.keep (Fr.alloc (fun _ => False) w o) (fun _ _ f => f)
  have htk : ∀ o : Obj, Sl (w.alloc o) tv (t.map sv) := fun o => ht.keep (Fr.alloc (fun _ => False) w o) (fun _ _ f => f)
  have eo : opS ⟨6, N, s, l, t, mo, lo⟩ = rawS s := by simp [opS]
  rw [eo] at hA ⊢
  have hN := ok.n
  simp only at hN
  have kk := fun (o : Obj) => text_any pv s bs g n (w.alloc o) ok.s (by simpa [Nat.add_assoc] using hA o) (hA o).lt
  obtain ⟨a1, b1, c1, rfl⟩ := hl.shape
  obtain ⟨a2, b2, c2, rfl⟩ := ht.shape
  clear hA hlk htk hw hl ht hla hta eo ok
  unfold opv
  go_enter Try.func8, Try.ntmps8
  go_wp2_with (go_at_call 28; refine (kk _).mono ?_; rintro e w' ⟨rfl, hto⟩)
  go_end0
  exact ⟨rfl, hto.of_alloc⟩

set_option maxHeartbeats 800000 in
theorem write_7 (pv lv tv : Value) (N : Nat) (s : List UInt8) (l : List Int) (t : List (List UInt8)) (mo lo : Int) (bs : List UInt8) (g : Option Nat) (n : Nat) (w : World) (ok : (⟨7, N, s, l, t, mo, lo⟩ : OpD).Ok) (hw : WrO pv w bs g ((opS ⟨7, N, s, l, t, mo, lo⟩).length + n))
    (hl : Sl w lv (l.map fun x => .int .i64 x)) (ht : Sl w tv (t.map sv)) (hla : Apart (l.map fun x => .int .i64 x) lv pv g) (hta : Apart (t.map sv) tv pv g) :
    Calls Try.prog 8 #[pv, opv 7 N s lv tv mo lo] w fun e w' => e = .returned (.tuple #[]) ∧ WTo pv w g w' (bs ++ opS ⟨7, N, s, l, t, mo, lo⟩) n := by
  have hA : ∀ o : Obj, WrO pv (w.alloc o) bs g ((opS ⟨7, N, s, l, t, mo, lo⟩).length + n) := fun o => hw.alloc o
  have hlk : ∀ o : Obj, Sl (w.alloc o) lv (l.map fun x => .int .i64 x) := fun o => hl.keep (Fr.alloc (fun _ => False) w o) (fun _ _ f => f)
  have htk : ∀ o : Obj, Sl (w.alloc o) tv (t.map sv) := fun o => ht.keep (Fr.alloc (fun _ => False) w o) (fun _ _ f => f)
  have eo : opS ⟨7, N, s, l, t, mo, lo⟩ = rawS s := by simp [opS]
  rw [eo] at hA ⊢
  have hN := ok.n
  simp only at hN
  have hcv : ∀ o : Obj, (convert 9 24 (.string ⟨s.toArray⟩)).run Try.prog (w.alloc o) = .ok (.slice (some ⟨w.heap.size + 1, 0, none⟩) s.length (bcap (w.alloc o) s)) (bconv (w.alloc o) s) := fun o => by have := run_conv (w.alloc o) s; rw [World.size_alloc] at this; exact this
  have kk := fun (o : Obj) => raw_any pv (.slice (some ⟨w.heap.size + 1, 0, none⟩) s.length (bcap (w.alloc o) s)) s bs g n (bconv (w.alloc o) s) (((by simpa [Nat.add_assoc] using hA o : WrO pv (w.alloc o) bs g (4 + (s.length + n)))).keep (bconv_fr (fun _ => False) _ s) (fun _ _ f => f) (fun _ _ f => f)) (by have := bconv_sl (w.alloc o) s ok.s; rw [World.size_alloc] at this; exact this) (Or.inr fun k hk hs => by
    have : (w.alloc o).heap.size = k := by simpa [Value.ownBlock] using hk
    have := (hA o).lt k hs
    omega)
  obtain ⟨a1, b1, c1, rfl⟩ := hl.shape
  obtain ⟨a2, b2, c2, rfl⟩ := ht.shape
  clear hA hlk htk hw hl ht hla hta eo ok
  unfold opv
  go_enter Try.func8, Try.ntmps8
  go_wp2_with (go_at_call 29; refine (kk _).mono ?_; rintro e w' ⟨rfl, hto⟩)
  go_end0
  refine ⟨rfl, ?_⟩
  exact WTo.of_alloc (WTo.trans (bconv_fr _ _ s) (Or.inl rfl) hto)

set_option maxHeartbeats 800000 in
theorem write_8 (pv lv tv : Value) (N : Nat) (s : List UInt8) (l : List Int) (t : List (List UInt8)) (mo lo : Int) (bs : List UInt8) (g : Option Nat) (n : Nat) (w : World) (ok : (⟨8, N, s, l, t, mo, lo⟩ : OpD).Ok) (hw : WrO pv w bs g ((opS ⟨8, N, s, l, t, mo, lo⟩).length + n))
    (hl : Sl w lv (l.map fun x => .int .i64 x)) (ht : Sl w tv (t.map sv)) (hla : Apart (l.map fun x => .int .i64 x) lv pv g) (hta : Apart (t.map sv) tv pv g) :
    Calls Try.prog 8 #[pv, opv 8 N s lv tv mo lo] w fun e w' => e = .returned (.tuple #[]) ∧ WTo pv w g w' (bs ++ opS ⟨8, N, s, l, t, mo, lo⟩) n := by
  have hA : ∀ o : Obj, WrO pv (w.alloc o) bs g ((opS ⟨8, N, s, l, t, mo, lo⟩).length + n) := fun o => hw.alloc o
  have hlk : ∀ o : Obj, Sl (w.alloc o) lv (l.map fun x => .int .i64 x) := fun o => hl.keep (Fr.alloc (fun _ => False) w o) (fun _ _ f => f)
  have htk : ∀ o : Obj, Sl (w.alloc o) tv (t.map sv) := fun o => ht.keep (Fr.alloc (fun _ => False) w o) (fun _ _ f => f)
  have eo : opS ⟨8, N, s, l, t, mo, lo⟩ = intsS l := by simp [opS]
  rw [eo] at hA ⊢
  have hN := ok.n
  simp only at hN
  have kk := fun (o : Obj) => ints_any pv lv l _ rfl bs g n (w.alloc o) ok.l (by simpa [intsS, Nat.add_assoc] using hA o) (hlk o) hla
  obtain ⟨a1, b1, c1, rfl⟩ := hl.shape
  obtain ⟨a2, b2, c2, rfl⟩ := ht.shape
  clear hA hlk htk hw hl ht hla hta eo ok
  unfold opv
  go_enter Try.func8, Try.ntmps8
  go_wp2_with (go_at_call 30; refine (kk _).mono ?_; rintro e w' ⟨rfl, hto⟩)
  go_end0
  exact ⟨rfl, hto.of_alloc⟩

set_option maxHeartbeats 800000 in
theorem write_9 (pv lv tv : Value) (N : Nat) (s : List UInt8) (l : List Int) (t : List (List UInt8)) (mo lo : Int) (bs : List UInt8) (g : Option Nat) (n : Nat) (w : World) (ok : (⟨9, N, s, l, t, mo, lo⟩ : OpD).Ok) (hw : WrO pv w bs g ((opS ⟨9, N, s, l, t, mo, lo⟩).length + n))
    (hl : Sl w lv (l.map fun x => .int .i64 x)) (ht : Sl w tv (t.map sv)) (hla : Apart (l.map fun x => .int .i64 x) lv pv g) (hta : Apart (t.map sv) tv pv g) :
    Calls Try.prog 8 #[pv, opv 9 N s lv tv mo lo] w fun e w' => e = .returned (.tuple #[]) ∧ WTo pv w g w' (bs ++ opS ⟨9, N, s, l, t, mo, lo⟩) n := by
  have hA : ∀ o : Obj, WrO pv (w.alloc o) bs g ((opS ⟨9, N, s, l, t, mo, lo⟩).length + n) := fun o => hw.alloc o
  have hlk : ∀ o : Obj, Sl (w.alloc o) lv (l.map fun x => .int .i64 x) := fun o => hl.keep (Fr.alloc (fun _ => False) w o) (fun _ _ f => f)
  have htk : ∀ o : Obj, Sl (w.alloc o) tv (t.map sv) := fun o => ht.keep (Fr.alloc (fun _ => False) w o) (fun _ _ f => f)
  have eo : opS ⟨9, N, s, l, t, mo, lo⟩ = textsS t := by simp [opS]
  rw [eo] at hA ⊢
  have hN := ok.n
  simp only at hN
  have kk := fun (o : Obj) => texts_any pv tv t _ rfl bs g n (w.alloc o) ok.t ok.ts (by simpa [textsS, Nat.add_assoc] using hA o) (htk o) hta
  obtain ⟨a1, b1, c1, rfl⟩ := hl.shape
  obtain ⟨a2, b2, c2, rfl⟩ := ht.shape
  clear hA hlk htk hw hl ht hla hta eo ok
  unfold opv
  go_enter Try.func8, Try.ntmps8
  go_wp2_with (go_at_call 31; refine (kk _).mono ?_; rintro e w' ⟨rfl, hto⟩)
  go_end0
  exact ⟨rfl, hto.of_alloc⟩

set_option maxHeartbeats 800000 in
theorem write_0 (pv lv tv : Value) (k : Int) (N : Nat) (s : List UInt8) (mo lo : Int) (w : World) (h1 : (k == 1) = false) (h2 : (k == 2) = false) (h3 : (k == 3) = false) (h4 : (k == 4) = false) (h5 : (k == 5) = false) (h6 : (k == 6) = false) (h7 : (k == 7) = false) (h8 : (k == 8) = false) (h9 : (k == 9) = false)
    (hl : ∃ a b c, lv = .slice a b c) (ht : ∃ a b c, tv = .slice a b c) :
    Calls Try.prog 8 #[pv, opv k N s lv tv mo lo] w fun e w' => e = .returned (.tuple #[]) ∧ w' = w.alloc (.cells #[.int .i64 k, .int .u64 (N : Int), .string ⟨s.toArray⟩, lv, tv, .int .i64 mo, .int .i64 lo] 32) := by
  obtain ⟨a1, b1, c1, rfl⟩ := hl
  obtain ⟨a2, b2, c2, rfl⟩ := ht
  unfold opv
  go_enter Try.func8, Try.ntmps8
  go_wp2
  go_end0
  exact ⟨rfl, rfl⟩

theorem write_any (pv v : Value) (o : OpD) (lv tv : Value) (bs : List UInt8) (g : Option Nat) (n : Nat) (w : World) (hw : WrO pv w bs g ((opS o).length + n)) (ho : OpIs w v o lv tv) (hla : Apart (o.l.map fun x => .int .i64 x) lv pv g) (hta : Apart (o.t.map sv) tv pv g) :
    Calls Try.prog 8 #[pv, v] w fun e w' => e = .returned (.tuple #[]) ∧ WTo pv w g w' (bs ++ opS o) n := by
  obtain ⟨rfl, hl, ht, ok⟩ := ho
  obtain ⟨k, N, s, l, t, mo, lo⟩ := o
  by_cases e1 : k = 1
  · subst e1
    exact write_1 pv lv tv N s l t mo lo bs g n w ok hw hl ht hla hta
  by_cases e2 : k = 2
  · subst e2
    exact write_2 pv lv tv N s l t mo lo bs g n w ok hw hl ht hla hta
  by_cases e3 : k = 3
  · subst e3
    exact write_3 pv lv tv N s l t mo lo bs g n w ok hw hl ht hla hta
  by_cases e4 : k = 4
  · subst e4
    exact write_4 pv lv tv N s l t mo lo bs g n w ok hw hl ht hla hta
  by_cases e5 : k = 5
  · subst e5
    exact write_5 pv lv tv N s l t mo lo bs g n w ok hw hl ht hla hta
  by_cases e6 : k = 6
  · subst e6
    exact write_6 pv lv tv N s l t mo lo bs g n w ok hw hl ht hla hta
  by_cases e7 : k = 7
  · subst e7
    exact write_7 pv lv tv N s l t mo lo bs g n w ok hw hl ht hla hta
  by_cases e8 : k = 8
  · subst e8
    exact write_8 pv lv tv N s l t mo lo bs g n w ok hw hl ht hla hta
  by_cases e9 : k = 9
  · subst e9
    exact write_9 pv lv tv N s l t mo lo bs g n w ok hw hl ht hla hta
  have e : opS ⟨k, N, s, l, t, mo, lo⟩ = [] := by simp [opS, *]
  rw [e] at hw ⊢
  refine (write_0 pv lv tv k N s mo lo w (by simpa using e1) (by simpa using e2) (by simpa using e3) (by simpa using e4) (by simpa using e5) (by simpa using e6) (by simpa using e7) (by simpa using e8) (by simpa using e9) hl.shape ht.shape).mono ?_
  rintro e w' ⟨rfl, rfl⟩
  rw [List.append_nil]
  exact ⟨rfl, g, by simpa using hw.alloc _, Fr.alloc _ _ _, Or.inl rfl⟩
end Go.Proofs.Ytflemhekoffpoaa
