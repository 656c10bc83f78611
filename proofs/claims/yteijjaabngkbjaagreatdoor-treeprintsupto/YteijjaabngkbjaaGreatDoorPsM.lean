/- Plain: declarations and modules are read back. -/
import Derived.Test.YteijjaabngkbjaaGreatDoorPsL
namespace Go.Proofs.YteijjaabngkbjaaGreatDoor
set_option linter.unusedSimpArgs false
set_option linter.unusedVariables false
namespace Pz
open Lx Te

def tyW (t : Int) : Bs := if t = 1 then [105, 110, 116] else if t = 2 then [102, 108, 111, 97, 116] else [98, 111, 111, 108]
def kTy (t : Int) : List Tok := if t = 0 then [] else [tM [58], tW (tyW t)]
def kP1 (p : Pa) : List Tok := tN p.name :: kTy p.type
def kPa : List Pa → List Tok
  | [] => []
  | p :: r => kP1 p ++ r.flatMap (fun q => tM [44] :: kP1 q)
def kEx (b : Bool) : List Tok := if b then [tW [101, 120, 112, 111, 114, 116]] else []
section
variable (tx : Int → Int → Bs)
def kHo (d : De) : List Tok := tN d.name :: (kTy d.type ++ tM [61] :: (kF tx d.e ++ [tM [59]]))
def kFn (d : De) : List Tok := tN d.name :: tM [40] :: (kPa d.params ++ tM [41] :: (kTy d.type ++ tM [123] :: (kSt tx d.body ++ [tM [125]])))
def kDe (d : De) : List Tok :=
  if d.kind = 1 then kEx d.ex ++ tW [99, 111, 110, 115, 116] :: kHo tx d
  else if d.kind = 2 then tW [118, 97, 114] :: kHo tx d
  else kEx d.ex ++ tW [102, 110] :: kFn tx d
def kIm (x : Bs) : List Tok := [tW [105, 109, 112, 111, 114, 116], tN x, tM [59]]
def kMo (m : Mo) : List Tok := tW [109, 111, 100, 117, 108, 101] :: tN m.name :: tM [59] :: (m.imports.flatMap kIm ++ m.decls.flatMap (kDe tx))
end
def NnD (d : De) : Prop := NnX d.e ∧ NnS d.body
theorem isTy_c {t : Int} (h : isTy t = true) : t = 1 ∨ t = 2 ∨ t = 3 := by
  simpa [isTy, or_assoc] using h
theorem typ_ok {t : Int} (h : isTy t = true) (rest : List Tok) : ∃ r, kTy t ++ rest = tM [58] :: r ∧ typ r = some (.ok t rest) := by
  rcases isTy_c h with rfl | rfl | rfl
  · exact ⟨_, rfl, rfl⟩
  · exact ⟨_, rfl, rfl⟩
  · exact ⟨_, rfl, rfl⟩
theorem par1_ok (p : Pa) (h : isTy p.type = true) (rest : List Tok) : par1 false (kP1 p ++ rest) = some (.ok p rest) := by
  obtain ⟨r, e1, e2⟩ := typ_ok h rest
  rw [kP1, List.cons_append, e1, par1, name_y, bd_ok, must_y (by rfl), bd_ok, e2, bd_ok]
theorem rwP_ok : ∀ (ps : List Pa) (g : Nat) (acc : List Pa) (rest : List Tok), (∀ p ∈ ps, isTy p.type = true) → acc.length + ps.length ≤ 8 → ps.length < g → rwP g acc (ps.flatMap (fun q => tM [44] :: kP1 q) ++ tM [41] :: rest) = some (.ok (acc ++ ps) (tM [41] :: rest))
  | [], g, acc, rest, _, _, hg => by
    obtain ⟨g, rfl⟩ : ∃ x, g = x + 1 := ⟨g - 1, by simp at hg; omega⟩
    rw [List.flatMap_nil, List.nil_append, rwP, if_neg (by decide), List.append_nil]
  | p :: ps, g, acc, rest, hp, hl, hg => by
    obtain ⟨g, rfl⟩ : ∃ x, g = x + 1 := ⟨g - 1, by simp at hg; omega⟩
    simp only [List.length_cons] at hl hg
    have hf : (acc.length == 8) = false := by simp; omega
    rw [List.flatMap_cons, List.append_assoc, List.cons_append, rwP, if_pos (by rfl), hf, par1_ok p (hp p (by simp)), bd_ok, rwP_ok ps g (acc ++ [p]) rest (fun q hq => hp q (by simp [hq])) (by simp only [List.length_append, List.length_cons, List.length_nil]; omega) (by omega)]
    simp
section
variable {rn : Bs → Int} {cn : Int → Int} {tx : Int → Int → Bs} (L : Law rn cn tx) (hEl : ∀ x, rn x = 0 → x ≠ [101, 108, 115, 101])
theorem errP_of : ∀ (ps : List Pa), errP rn ps = 0 → ∀ p ∈ ps, rn p.name = 0 ∧ isTy p.type = true
  | [], _, p, hp => by simp at hp
  | q :: ps, h, p, hp => by
    rw [errP] at h
    obtain ⟨h1, h2⟩ := orE_0 h
    obtain ⟨h3, h4⟩ := orE_0 h1
    rcases List.mem_cons.1 hp with rfl | hp
    · refine ⟨h3, ?_⟩
      by_cases e : isTy p.type = true
      · exact e
      · rw [if_neg e] at h4; omega
    · exact errP_of ps h2 p hp
include L
theorem params_ok (ps : List Pa) (hp : ∀ p ∈ ps, rn p.name = 0 ∧ isTy p.type = true) (hl : ps.length ≤ 8) (g : Nat) (hg : ps.length < g) (rest : List Tok) : params g (kPa ps ++ tM [41] :: rest) = some (.ok ps (tM [41] :: rest)) := by
  cases ps with
  | nil => rfl
  | cons p r =>
    obtain ⟨h1, h2⟩ := hp p (by simp)
    have hn := (nm_no L h1).2.2
    have hb := par1_ok p h2 (r.flatMap (fun q => tM [44] :: kP1 q) ++ tM [41] :: rest)
    rw [kPa, List.append_assoc]
    rw [kP1, List.cons_append] at hb ⊢
    simp only [List.length_cons] at hl hg
    rw [params, if_neg (by simpa [tN] using hn), hb, bd_ok, rwP_ok r g [p] rest (fun q hq => (hp q (by simp [hq])).2) (by simp only [List.length_cons, List.length_nil]; omega) (by omega)]
    rfl
theorem holder_ok (d : De) (kind : Int) (hk : d.kind = kind) (hp : d.params = []) (hb : d.body = .nil) (h1 : isTy d.type = true) (h2 : d.e.len = 1) (hE : errL rn cn d.e = 0) (hN : NnX d.e) (hD : dL d.e 0 0 ≤ 32) (g : Nat) (rest : List Tok) (hg : (kHo tx d ++ rest).length < g) :
    holder (E0 g) kind d.ex (kHo tx d ++ rest) = some (.ok d rest) := by
  obtain ⟨kind', ex, nm, ty, ps, e, body⟩ := d
  simp only at hk hp hb h1 h2 hE hN hD ⊢
  subst hk hp hb
  obtain ⟨x, k, rfl⟩ := one_of h2
  obtain ⟨r, e1, e2⟩ := typ_ok h1 (tM [61] :: (kF tx (.cons x k .nil) ++ tM [59] :: rest))
  have hT : kHo tx ⟨kind', ex, nm, ty, [], .cons x k .nil, .nil⟩ ++ rest = tN nm :: (kTy ty ++ tM [61] :: (kF tx (.cons x k .nil) ++ tM [59] :: rest)) := by simp [kHo]
  rw [hT] at hg ⊢
  simp only [List.length_cons, List.length_append] at hg
  rw [e1, holder, name_y, bd_ok, must_y (by rfl), bd_ok, e2, bd_ok, must_y (by rfl), bd_ok, lone_back L x k hE hN g 0 _ _ (Or.inl rfl) (by simp only [List.length_cons, List.length_append]; omega) (by omega) (by simpa using lone_dep hD), bd_ok, must_y (by rfl), bd_ok]
include hEl
theorem fnc_ok (d : De) (hk : d.kind = 3) (he : d.e = .nil) (h1 : d.type = 0 ∨ isTy d.type = true) (hp : ∀ p ∈ d.params, rn p.name = 0 ∧ isTy p.type = true) (hl : d.params.length ≤ 8) (hS : errS rn cn d.body = 0) (hN : NnS d.body) (hD : dS d.body 1 1 ≤ 32) (g : Nat) (rest : List Tok) (hg : (kFn tx d ++ rest).length < g) :
    fnc (B0 g) g d.ex (kFn tx d ++ rest) = some (.ok d rest) := by
  obtain ⟨kind', ex, nm, ty, ps, e, body⟩ := d
  simp only at hk he h1 hp hl hS hN hD ⊢
  subst hk he
  have hT : kFn tx ⟨3, ex, nm, ty, ps, .nil, body⟩ ++ rest = tN nm :: tM [40] :: (kPa ps ++ tM [41] :: (kTy ty ++ tM [123] :: (kSt tx body ++ tM [125] :: rest))) := by simp [kFn]
  rw [hT] at hg ⊢
  simp only [List.length_cons, List.length_append] at hg
  have hpl : ps.length ≤ (kPa ps).length := by
    cases ps with
    | nil => simp
    | cons p r =>
      have : r.length ≤ (r.flatMap (fun q => tM [44] :: kP1 q)).length := by
        clear hp hl hT hg
        induction r with
        | nil => simp
        | cons q r ih => simp only [List.flatMap_cons, List.length_append, List.length_cons]; omega
      have h1 : 1 ≤ (kP1 p).length := by simp [kP1]
      simp only [kPa, List.length_append, List.length_cons]
      omega
  have hres : result (kTy ty ++ tM [123] :: (kSt tx body ++ tM [125] :: rest)) = some (.ok ty (tM [123] :: (kSt tx body ++ tM [125] :: rest))) := by
    rcases h1 with rfl | h1
    · rw [kTy, if_pos rfl, List.nil_append, result, has_n (by decide), bd_ok]
      rfl
    · obtain ⟨r, e1, e2⟩ := typ_ok h1 (tM [123] :: (kSt tx body ++ tM [125] :: rest))
      rw [e1, result, has_y (by rfl), bd_ok, if_pos rfl, e2]
  have hb := blk_back g body (sts_back L hEl g body) g 0 rest hS hN (by simp only [List.length_cons, List.length_append]; omega) (by omega) (by omega) (by simpa using hD)
  rw [fnc, name_y, bd_ok, must_y (by rfl), bd_ok, params_ok L ps hp hl g (by omega), bd_ok, must_y (by rfl), bd_ok, hres, bd_ok, B0, hb, bd_ok]
end
end Pz
end Go.Proofs.YteijjaabngkbjaaGreatDoor
