/- Plain words: the document's decoder takes every right interface's bytes; what it answers. -/
import Derived.Test.YtakkiipkmogagaaGreatIdL
import Derived.Test.YtakkiipkmogagaaGreatIcBll
namespace Go.Proofs.YtakkiipkmogagaaGreat.Fo.Ic
open Go.RowKit Te
set_option linter.unusedSimpArgs false
set_option linter.unusedVariables false

theorem nats_of (l : List Int) (h : ∀ x ∈ l, 0 ≤ x) : (l.map Int.toNat).map (fun x : Nat => (x : Int)) = l := by
  induction l with
  | nil => rfl
  | cons x l ih =>
    have h1 := h x (by simp)
    have h2 := ih (fun y hy => h y (by simp [hy]))
    simp only [List.map_cons, h2]
    rw [show ((x.toNat : Nat) : Int) = x by omega]
theorem u8_to {z : Int} (h0 : 0 ≤ z) (h1 : z ≤ 3) : (((u8 z).toNat : Nat) : Int) = z := by
  have : z = 0 ∨ z = 1 ∨ z = 2 ∨ z = 3 := by omega
  rcases this with rfl | rfl | rfl | rfl <;> rfl
theorem decI_comp (i : Ty.It) (hi : Ty.rightI i = 0) (hb : U64 i.bits) (hp : ∀ x ∈ i.params, 0 ≤ x ∧ x < 2147483648) (r : List UInt8) : decI (some (itemB i ++ r)) = (i, some r) := by
  obtain ⟨hk0, hk1, ht0, ht1, hpl, hnl⟩ := rightI_ok hi
  obtain ⟨kind, name, typ, bits, params⟩ := i
  simp only at hk0 hk1 ht0 ht1 hpl hnl hb hp
  have e : itemB ⟨kind, name, typ, bits, params⟩ ++ r = [u8 kind] ++ (Wi.rawS name ++ ([u8 typ] ++ (Wi.beS bits.toNat 8 ++ (Wi.intsS params ++ r)))) := by
    unfold itemB
    simp only [List.append_assoc]
  rw [e]
  obtain ⟨b0, b1⟩ := hb
  have q1 := by_comp (u8 kind) (Wi.rawS name ++ ([u8 typ] ++ (Wi.beS bits.toNat 8 ++ (Wi.intsS params ++ r))))
  have q2 := rw_comp 32 name ([u8 typ] ++ (Wi.beS bits.toNat 8 ++ (Wi.intsS params ++ r))) hnl (by omega)
  have q3 := by_comp (u8 typ) (Wi.beS bits.toNat 8 ++ (Wi.intsS params ++ r))
  have q4 : tkS 8 (some (Wi.beS bits.toNat 8 ++ (Wi.intsS params ++ r))) = (bits.toNat, some (Wi.intsS params ++ r)) := by
    have := tk_comp (Wi.beS bits.toNat 8) (Wi.intsS params ++ r)
    rw [Wi.num_be, Wi.beS_length, Nat.mod_eq_of_lt (by omega)] at this
    exact this
  have q5 : itS (some (Wi.intsS params ++ r)) = (params.map Int.toNat, some r) := by
    have := it_comp (params.map Int.toNat) r (by simpa using hpl) (fun x hx => by
      obtain ⟨y, hy, rfl⟩ := List.mem_map.1 hx
      have := hp y hy
      omega)
    rw [nats_of params (fun x hx => (hp x hx).1)] at this
    exact this
  unfold decI
  rw [q1]; simp only
  rw [q2]; simp only
  rw [q3]; simp only
  rw [q4]; simp only
  rw [q5]; simp only
  rw [nats_of params (fun x hx => (hp x hx).1), u8_to hk0 hk1, u8_to ht0 ht1, show ((bits.toNat : Nat) : Int) = bits by omega]
theorem decL_comp : ∀ (l : List Ty.It) (r : List UInt8), (∀ i ∈ l, Ty.rightI i = 0 ∧ U64 i.bits ∧ ∀ x ∈ i.params, 0 ≤ x ∧ x < 2147483648) → decL l.length (some ((l.map itemB).flatten ++ r)) = (l, some r)
  | [], r, _ => by simp [decL]
  | i :: l, r, h => by
    have e : some (((i :: l).map itemB).flatten ++ r) = some (itemB i ++ ((l.map itemB).flatten ++ r)) := by simp
    obtain ⟨h1, h2, h3⟩ := h i (by simp)
    rw [e]
    show ((decI _).1 :: (decL l.length (decI _).2).1, (decL l.length (decI _).2).2) = _
    rw [decI_comp i h1 h2 h3, decL_comp l r (fun j hj => h j (by simp [hj]))]
/-- What the document's Decode answers. -/
def docF (b : List UInt8) : Ty.Fc × Option (List UInt8) :=
  (⟨(rwS 32 (some b)).1, (decL (inS (rwS 32 (some b)).2).1 (inS (rwS 32 (some b)).2).2).1⟩, (decL (inS (rwS 32 (some b)).2).1 (inS (rwS 32 (some b)).2).2).2)
def docN (b : List UInt8) : Nat := (inS (rwS 32 (some b)).2).1
def docS (b : List UInt8) : Ty.Fc × Int := if 64 < docN b then (⟨[], []⟩, 50) else if dnS (docF b).2 = true ∧ Ty.rightF (docF b).1 = 0 then ((docF b).1, 0) else (⟨[], []⟩, 50)
theorem docF_sound {b : List UInt8} (h : dnS (docF b).2 = true) : encS (docF b).1 = b := by
  have h0 : (docF b).2 = some [] := by
    revert h
    generalize (docF b).2 = z
    intro h
    cases z with
    | none => simp [dnS] at h
    | some t => cases t with
      | nil => rfl
      | cons _ _ => simp [dnS] at h
  unfold docF at h0 ⊢
  simp only at h0 ⊢
  obtain ⟨h1, h2⟩ := decL_sound (inS (rwS 32 (some b)).2).1 (inS (rwS 32 (some b)).2).2 _ [] (by rw [← h0])
  obtain ⟨h3, h4⟩ := in_sound (x := (inS (rwS 32 (some b)).2).1) (s := (rwS 32 (some b)).2) (by rw [← h2])
  obtain ⟨h5, h6⟩ := rw_sound (m := 32) (l := (rwS 32 (some b)).1) (s := some b) (by rw [← h4])
  refine Eq.trans ?_ (Option.some.inj h6).symm
  unfold encS
  simp only [h1, List.append_nil, List.append_assoc]
theorem docS_sound (b : List UInt8) : ((docS b).2 = 0 ∧ Ty.rightF (docS b).1 = 0 ∧ encS (docS b).1 = b) ∨ ((docS b).2 = 50 ∧ (docS b).1 = ⟨[], []⟩) := by
  unfold docS
  split
  · exact Or.inr ⟨rfl, rfl⟩
  · split
    · rename_i h
      exact Or.inl ⟨rfl, h.2, docF_sound h.1⟩
    · exact Or.inr ⟨rfl, rfl⟩
theorem docS_comp (f : Ty.Fc) (hf : Ty.rightF f = 0) (hok : ∀ i ∈ f.items, U64 i.bits ∧ ∀ x ∈ i.params, 0 ≤ x ∧ x < 2147483648) : docS (encS f) = (f, 0) := by
  obtain ⟨r1, r2, r3⟩ := rightF_ok hf
  obtain ⟨nm, l⟩ := f
  simp only at r1 r2 r3 hok
  have e0 : encS ⟨nm, l⟩ = Wi.rawS nm ++ (Wi.i31 (l.length : Int) ++ ((l.map itemB).flatten ++ [])) := by unfold encS; simp
  have q1 := rw_comp 32 nm (Wi.i31 (l.length : Int) ++ ((l.map itemB).flatten ++ [])) r1 (by omega)
  have q2 := in_comp l.length (by omega) ((l.map itemB).flatten ++ [])
  have q3 := decL_comp l [] (fun i hi => ⟨r3 i hi, hok i hi⟩)
  have e1 : docN (encS ⟨nm, l⟩) = l.length := by unfold docN; rw [e0, q1]; simp only; rw [q2]
  have e2 : docF (encS ⟨nm, l⟩) = (⟨nm, l⟩, some []) := by
    unfold docF
    rw [e0, q1]; simp only
    rw [q2]; simp only
    rw [q3]
  unfold docS
  rw [e1, e2, if_neg (by omega), if_pos ⟨rfl, hf⟩]
end Go.Proofs.YtakkiipkmogagaaGreat.Fo.Ic
