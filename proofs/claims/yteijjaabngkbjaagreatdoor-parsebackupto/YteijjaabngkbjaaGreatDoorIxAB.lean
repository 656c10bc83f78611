/- FxB IxA -/
import Derived.Test.YteijjaabngkbjaaGreatDoorFxA
import Derived.Deep.DeepCutAuto
import Derived.Laws.RangeString
import Derived.Lib.ItoaMem
import Derived.Test.YteijjaabngkbjaaGreatDoorRows
import Derived.Test.YteijjaabngkbjaaGreatDoorIyAB
import Derived.WalkKit
import Derived.WalkSpells
import Derived.WalkLawsBesides
import Derived.ProofKit
import Derived.RowKit3
import Derived.Laws.Externs
import Derived.Laws.BitsAllLaws
import Derived.Shelf.Spec.BitsCarry
import Derived.Laws.RangeAny
import Derived.Lib.IndexBytes
set_option maxRecDepth 100000
set_option maxHeartbeats 40000000
set_option linter.unusedVariables false
set_option linter.unusedSimpArgs false
set_option linter.unusedSectionVars false
namespace Go.Proofs.YteijjaabngkbjaaGreatDoor.F
open Go.RowKit Fl
theorem hexF_fold (k:Nat):∀(f acc:Nat),k≤13→f<4503599627370496→f % 16 ^ (13 - k)=0 →
 foldHex (hexF k f) acc=some (acc*16 ^ (hexF k f).length+f / 16 ^ (13 - (hexF k f).length))∧f % 16 ^ (13 - (hexF k f).length)=0∧(hexF k f).length≤k:=by
 induction k with
 | zero =>
   intro f acc _ hf h
   have h':f % 4503599627370496=0:=h
   have hz:f=0:=by omega
   subst hz
   simp [hexF,foldHex]
 | succ k ih =>
   intro f acc hk hf h
   unfold hexF
   by_cases hz:f=0
   ·subst hz;simp [foldHex]
   ·rw [if_neg hz]
    have hd:f / 281474976710656<16:=by omega
    have hx:=hix_dig _ hd
    have hf':f % 281474976710656*16<4503599627370496:=by omega
    have hm:(f % 281474976710656*16) % 16 ^ (13 - k)=0:=by
     have:k=0∨k=1∨k=2∨k=3∨k=4∨k=5∨k=6∨k=7∨k=8∨k=9∨k=10∨k=11∨k=12:=by omega
     rcases this with rfl | rfl | rfl | rfl | rfl | rfl | rfl | rfl | rfl | rfl | rfl | rfl | rfl<;>simp at h ⊢<;>omega
    obtain ⟨i1,i2,i3⟩:=ih (f % 281474976710656*16) (acc*16+f / 281474976710656) (by omega) hf' hm
    rw [foldHex,if_neg (by rw [hx];omega),hx,Int.toNat_natCast,i1]
    rw [List.length_cons]
    generalize (hexF k (f % 281474976710656*16)).length=j at *
    have hj:j=0∨j=1∨j=2∨j=3∨j=4∨j=5∨j=6∨j=7∨j=8∨j=9∨j=10∨j=11∨j=12:=by omega
    refine ⟨?_,?_,by omega⟩
    ·congr 1
     rcases hj with rfl | rfl | rfl | rfl | rfl | rfl | rfl | rfl | rfl | rfl | rfl | rfl | rfl<;>simp at i2 ⊢<;>omega
    ·rcases hj with rfl | rfl | rfl | rfl | rfl | rfl | rfl | rfl | rfl | rfl | rfl | rfl | rfl<;>simp at i2 ⊢<;>omega
theorem rfS_frac (F:Nat) (hF:F<4503599627370496):rfS (fracL F)=(F,true):=by
 unfold fracL
 by_cases h:F=0
 ·subst h;rfl
 ·rw [if_neg h]
  obtain ⟨i1,i2,i3⟩:=hexF_fold 13 F 0 (by omega) hF (by rw [Nat.sub_self,Nat.pow_zero,Nat.mod_one])
  unfold rfS
  have e1:Lib.trimPrefix (46::hexF 13 F) [46]=hexF 13 F:=by simp [Lib.trimPrefix,Lib.hasPrefix]
  have e2:Lib.hasPrefix (46::hexF 13 F) [46]=true:=by simp [Lib.hasPrefix]
  rw [e1,e2]
  rw [if_neg (by simp),if_neg (by simp;omega),i1]
  simp only [outF,Option.isSome_some,Nat.zero_mul,Nat.zero_add]
  generalize (hexF 13 F).length=j at *
  have hj:j=0∨j=1∨j=2∨j=3∨j=4∨j=5∨j=6∨j=7∨j=8∨j=9∨j=10∨j=11∨j=12∨j=13:=by omega
  congr 1
  exact Nat.div_mul_cancel (Nat.dvd_of_mod_eq_zero i2)
theorem foldDec_append (xs:List UInt8) (d:UInt8) (hd:isd d=true):∀(acc r:Nat),foldDec xs acc=some r→foldDec (xs++[d]) acc=some (r*10+(d.toNat - 48)):=by
 induction xs with
 | nil=>intro acc r h;cases h;simp [foldDec,hd]
 | cons x xs ih =>
   intro acc r h
   rw [foldDec] at h
   rw [List.cons_append,foldDec]
   split at h
   ·rename_i hx
    rw [if_pos hx]
    exact ih _ _ h
   ·cases h
theorem dig_isd (d:Nat) (h:d<10):isd (UInt8.ofNat (48+d))=true∧(UInt8.ofNat (48+d)).toNat=48+d:=by
 have e:(UInt8.ofNat (48+d)).toNat=48+d:=by rw [UInt8.toNat_ofNat'];omega
 exact ⟨by simp only [isd,e];simp;omega,e⟩
theorem foldDec_digits (n:Nat):foldDec (Lib.decDigits n) 0=some n:=by
 induction n using Nat.strongRecOn with
 | _ n ih =>
   rw [Lib.decDigits]
   by_cases c:n<10
   ·rw [dif_pos c]
    have:=dig_isd n c
    rw [foldDec,if_pos this.1,foldDec,this.2]
    all_goals (congr 1<;>omega)
   ·rw [dif_neg c]
    have hd:=dig_isd (n % 10) (by omega)
    rw [foldDec_append _ _ hd.1 0 (n / 10) (ih _ (by omega)),hd.2]
    all_goals (congr 1<;>omega)
theorem decDigits_len4 (n:Nat) (h:n<10000):(Lib.decDigits n).length≤4:=by
 have l1:∀m,m<10→(Lib.decDigits m).length=1:=by
  intro m hm
  rw [Lib.decDigits,dif_pos hm];rfl
 have st:∀m k,(∀q,q<10 ^ k→(Lib.decDigits q).length≤k)→1≤k→m<10 ^ (k+1)→(Lib.decDigits m).length≤k+1:=by
  intro m k hq hk hm
  by_cases c:m<10
  ·rw [l1 m c];omega
  ·rw [Lib.decDigits,dif_neg c]
   have:=hq (m / 10) (by rw [Nat.pow_succ] at hm;omega)
   simp
   omega
 have h1:∀q,q<10 ^ 1→(Lib.decDigits q).length≤1:=fun q hq=>by rw [l1 q (by simpa using hq)];omega
 have h2:∀q,q<10 ^ 2→(Lib.decDigits q).length≤2:=fun q hq=>st q 1 h1 (by omega) hq
 have h3:∀q,q<10 ^ 3→(Lib.decDigits q).length≤3:=fun q hq=>st q 2 h2 (by omega) hq
 exact st n 3 h3 (by omega) h
theorem reS_exp (E:Int) (h0 : -1074≤E) (h1:E≤1023):reS (expL E)=(E,true):=by
 unfold expL
 by_cases c:E<0
 ·rw [if_pos c]
  have hl:=decDigits_len4 E.natAbs (by omega)
  simp only [reS]
  rw [if_neg (by omega),foldDec_digits]
  have e:=expOf_neg 45 E.natAbs rfl
  rw [e.1,e.2,decide_eq_true (by omega)]
  all_goals (congr 1<;>omega)
 ·rw [if_neg c]
  have hl:=decDigits_len4 E.toNat (by omega)
  simp only [reS]
  rw [if_neg (by omega),foldDec_digits]
  have e:=expOf_pos 43 E.toNat rfl
  rw [e.1,e.2,decide_eq_true (by omega)]
  all_goals (congr 1<;>omega)
theorem indexByte_append (l r:List UInt8) (c:UInt8) (h:∀x∈l,(x == c)=false):Lib.indexByte (l++c::r) c=l.length:=by
 induction l with
 | nil=>simp [Lib.indexByte]
 | cons x l ih =>
   rw [List.cons_append,Lib.indexByte,if_neg (by rw [h x (by simp)];simp),ih (fun y hy=>h y (by simp [hy]))]
   rw [if_neg (by simp)]
   simp
theorem hexdig_ne (d:Nat) (h:d<16):(hexdig d == 112)=false:=by
 have:d=0∨d=1∨d=2∨d=3∨d=4∨d=5∨d=6∨d=7∨d=8∨d=9∨d=10∨d=11∨d=12∨d=13∨d=14∨d=15:=by omega
 rcases this with rfl | rfl | rfl | rfl | rfl | rfl | rfl | rfl | rfl | rfl | rfl | rfl | rfl | rfl | rfl | rfl<;>decide
theorem hexF_ne (k:Nat):∀f,f<4503599627370496→∀x∈hexF k f,(x == 112)=false:=by
 induction k with
 | zero=>intro f _ x hx;simp [hexF] at hx
 | succ k ih =>
   intro f hf x hx
   unfold hexF at hx
   split at hx
   ·simp at hx
   ·rcases List.mem_cons.1 hx with rfl | hx
    ·exact hexdig_ne _ (by omega)
    ·exact ih _ (by omega) x hx
theorem fracL_ne (F:Nat) (hF:F<4503599627370496):∀x∈fracL F,(x == 112)=false:=by
 intro x hx
 unfold fracL at hx
 split at hx
 ·simp at hx
 ·rcases List.mem_cons.1 hx with rfl | hx
  ·decide
  ·exact hexF_ne 13 F hF x hx
theorem cut_text (F:Nat) (hF:F<4503599627370496) (r:List UInt8):cut1 (fracL F++112::r) 112=(fracL F,r,true):=by
 unfold cut1
 rw [indexByte_append _ _ _ (fracL_ne F hF),if_pos (by omega),Int.toNat_natCast]
 simp
theorem join_back (a:Int) (ha:U a) (h:classS a=4∨classS a=5) :
 -1074≤partE a - shf (partM a).toNat+52∧partE a - shf (partM a).toNat+52≤1023∧(joinS (nrm (partM a).toNat % 4503599627370496) (partE a - shf (partM a).toNat+52):Int)=a % 9223372036854775808:=by
 have hcp:=class_parts a ha
 obtain ⟨h0,h1⟩:=ha
 rcases hcp with e | e | e | ⟨_,m1,m2,e1,e2⟩
 ·omega
 ·omega
 ·omega
 obtain ⟨b1,b2,b3,b4⟩:=nrm_bounds (partM a).toNat (by omega) (by omega)
 rcases h with e | e
 ·have em:partM a=a % 4503599627370496:=by simp [partM,e]
  have ee:partE a = -1074:=by simp [partE,e]
  have hR:a % 9223372036854775808<4503599627370496∧a % 9223372036854775808≠0:=by
   unfold classS at e
   revert e
   repeat' split
   all_goals omega
  have hmR:partM a=a % 9223372036854775808:=by omega
  have hbl:Lib.bitLen (partM a).toNat≤52:=by
   apply Classical.byContradiction
   intro hc
   have h53:Lib.bitLen (partM a).toNat=53:=by omega
   have hs0:shf (partM a).toNat=0:=by unfold shf;omega
   have:nrm (partM a).toNat=(partM a).toNat:=by unfold nrm;rw [hs0,Nat.pow_zero,Nat.mul_one]
   omega
  have hS:1≤shf (partM a).toNat∧shf (partM a).toNat≤52:=by unfold shf;omega
  refine ⟨by omega,by omega,?_⟩
  unfold joinS
  rw [if_pos (by omega),show 4503599627370496+nrm (partM a).toNat % 4503599627370496=nrm (partM a).toNat by omega]
  have:(-1022 - (partE a - (shf (partM a).toNat:Int)+52)).toNat=shf (partM a).toNat:=by omega
  rw [this]
  unfold nrm
  rw [Nat.mul_div_cancel _ (Nat.two_pow_pos _)]
  omega
 ·have em:partM a=a % 4503599627370496+4503599627370496:=by simp [partM,e]
  have ee:partE a=a / 4503599627370496 % 2048 - 1075:=by simp [partE,e]
  have hR:a % 9223372036854775808<9218868437227405312∧4503599627370496≤a % 9223372036854775808:=by
   unfold classS at e
   revert e
   repeat' split
   all_goals omega
  have hbl:Lib.bitLen (partM a).toNat=53:=by
   apply Classical.byContradiction
   intro hc
   have hS:1≤shf (partM a).toNat:=by unfold shf;omega
   have:(partM a).toNat*2≤nrm (partM a).toNat:=by
    unfold nrm
    exact Nat.mul_le_mul_left _ (by
     have:=Nat.pow_le_pow_right (show 0<2 by decide) hS
     simpa using this)
   omega
  have hs0:shf (partM a).toNat=0:=by unfold shf;omega
  have hn:nrm (partM a).toNat=(partM a).toNat:=by unfold nrm;rw [hs0,Nat.pow_zero,Nat.mul_one]
  refine ⟨by omega,by omega,?_⟩
  unfold joinS
  rw [if_neg (by omega),hn,hs0]
  omega
theorem sizeL_great (a:Int) (h:classS a=4∨classS a=5):sizeL (classS a) (partM a).toNat (partE a)=[48,120,49]++(fracL (nrm (partM a).toNat % 4503599627370496)++112::expL (partE a - shf (partM a).toNat+52)):=by
 unfold sizeL
 rw [if_neg (by omega),if_neg (by omega),if_neg (by omega)]
 simp
theorem rs_text (a:Int) (ha:U a):rsS (sizeL (classS a) (partM a).toNat (partE a))=(if nan a then 9221120237041090561 else a % 9223372036854775808,true):=by
 have hcn:=class_nan a
 rcases class_cases a with e | e | e | e | e
 ·rw [hcn.1 e,e];rfl
 ·have hn:nan a=false:=by cases h:nan a<;>simp_all
  have hr:a % 9223372036854775808=9218868437227405312:=by
   unfold classS at e
   revert e
   repeat' split
   all_goals omega
  rw [hn,e,hr];rfl
 ·have hn:nan a=false:=by cases h:nan a<;>simp_all
  have hr:a % 9223372036854775808=0:=by
   unfold classS at e
   revert e
   repeat' split
   all_goals omega
  rw [hn,e,hr];rfl
 all_goals
  have hn:nan a=false:=by cases h:nan a<;>simp_all
  have hg:classS a=4∨classS a=5:=by omega
  obtain ⟨j1,j2,j3⟩:=join_back a ha hg
  rw [sizeL_great a hg,hn]
  have hF:nrm (partM a).toNat % 4503599627370496<4503599627370496:=Nat.mod_lt _ (by decide)
  generalize nrm (partM a).toNat % 4503599627370496=F at *
  generalize partE a - (shf (partM a).toNat:Int)+52=E at *
  unfold rsS
  have e1:Lib.trimPrefix ([48,120,49]++(fracL F++112::expL E)) [48,120,49]=fracL F++112::expL E:=by simp [Lib.trimPrefix,Lib.hasPrefix]
  have e2:Lib.hasPrefix ([48,120,49]++(fracL F++112::expL E)) [48,120,49]=true:=by simp [Lib.hasPrefix]
  rw [e1,e2,cut_text F hF,rfS_frac F hF,reS_exp E j1 j2]
  rw [if_neg (by simp),if_neg (by simp),if_neg (by simp),if_neg (by simp),if_neg (by simp)]
  simp only [j3,Bool.false_eq_true,if_false]
theorem text_canon (a:Int) (ha:U a):textS (canonS a)=textS a:=by
 cases h:nan a
 ·rw [canon_self a h]
 ·have e:canonS a=9221120237041090561:=by simp [canonS,h]
  have hc:=(class_nan a).2 h
  have hp:partN a=false:=by simp [partN,hc]
  have hs:textS a=sizeL 1 (partM a).toNat (partE a):=by simp [textS,hc,hp]
  rw [e,hs]
  rfl
theorem parse_text (a:Int) (ha:U a):parseS (textS a)=(canonS a,0):=by
 have hr:=rs_text a ha
 have key:Lib.trimPrefix (textS a) [45]=sizeL (classS a) (partM a).toNat (partE a)∧Lib.hasPrefix (textS a) [45]=partN a:=by
  have hne:Lib.hasPrefix (sizeL (classS a) (partM a).toNat (partE a)) [45]=false:=by
   unfold sizeL Lib.hasPrefix
   repeat' split
   all_goals first | rfl | simp
  unfold textS
  cases partN a
  ·simp only [Bool.false_eq_true,if_false,List.nil_append]
   exact ⟨by unfold Lib.trimPrefix;rw [hne];simp,hne⟩
  ·simp [Lib.trimPrefix,Lib.hasPrefix]
 have hsg:signed_ (partN a) (if nan a then 9221120237041090561 else a % 9223372036854775808)=canonS a:=by
  obtain ⟨h0,h1⟩:=ha
  cases hn:nan a
  ·have hc:¬classS a=1:=by rw [class_nan];simp [hn]
   have hp:partN a=decide (9223372036854775808≤a):=by simp [partN,hc]
   have hn':=hn
   simp only [nan,decide_eq_false_iff_not] at hn'
   rw [canon_self a hn,hp]
   simp only [Bool.false_eq_true,if_false]
   unfold signed_
   by_cases c:9223372036854775808≤a
   ·rw [decide_eq_true c]
    simp only [if_true]
    have hm:nan (a % 9223372036854775808)=false:=by simp only [nan,decide_eq_false_iff_not];omega
    unfold negS
    rw [hm]
    simp only [Bool.false_eq_true,if_false]
    rw [if_neg (by omega)]
    omega
   ·rw [decide_eq_false c]
    simp only [Bool.false_eq_true,if_false]
    omega
  ·have hc:=(class_nan a).2 hn
   have hp:partN a=false:=by simp [partN,hc]
   rw [hp]
   simp [signed_,canonS,hn]
 unfold parseS
 rw [key.1,key.2,hr]
 simp only
 rw [hsg,text_canon a ha]
 simp
end Go.Proofs.YteijjaabngkbjaaGreatDoor.F
namespace Go.Proofs.YteijjaabngkbjaaGreatDoor.F
open Go.RowKit Fl
end Go.Proofs.YteijjaabngkbjaaGreatDoor.F
namespace Go.Proofs.YteijjaabngkbjaaGreatDoor.F
open Go.RowKit Fl
structure Form (t:List UInt8) (F:Nat) (E:Int):Prop where
 txt:t=[48,120,49]++(fracL F++112::expL E)
 hF:F<4503599627370496
 h0:-1074≤E
 h1:E≤1023
 sub:E < -1022→(4503599627370496+F) % 2 ^ (-1022 - E).toNat=0
end Go.Proofs.YteijjaabngkbjaaGreatDoor.F
namespace Go.Proofs.YteijjaabngkbjaaGreatDoor.F
open Go.RowKit Fl
theorem str_len (t:List UInt8):((⟨t.toArray⟩:ByteArray).size:Int)=(t.length:Int):=by simp [ByteArray.size]
end Go.Proofs.YteijjaabngkbjaaGreatDoor.F
namespace Go.Proofs.YteijjaabngkbjaaGreatDoor.F
open Go.RowKit Fl
end Go.Proofs.YteijjaabngkbjaaGreatDoor.F
namespace Go.Proofs.YteijjaabngkbjaaGreatDoor.F
open Go.RowKit Fl
def Rep (M r:Nat):Prop:=r<9218868437227405312∧val r=M*K
theorem rep_of (M:Nat) (h:M≤9007199254740992):∃r,Rep M r:=by
 by_cases c:M<9007199254740992
 ·obtain ⟨r,hr,hv⟩:=val_of M ((0:Int)+1074).toNat c (by omega)
  exact ⟨r,hr,hv⟩
 ·obtain ⟨r,hr,hv⟩:=val_of 4503599627370496 (((0:Int)+1074).toNat+1) (by omega) (by omega)
  refine ⟨r,hr,?_⟩
  have e:2 ^ ((0:Int)+1074).toNat=K:=by rw [K]
  rw [hv,Nat.pow_succ,e,show M=4503599627370496*2 by omega]
  generalize K=k
  omega
theorem fi_word (n:Int) (r:Nat) (h:Rep n.natAbs r):floatOfInt .f64 n=Ieee.double.word (decide (n<0)) r:=by
 rw [floatOfInt_eq,rung_exact n.natAbs 0 r ((0:Int)+1074).toNat 0 h.1 (by omega) (by rw [h.2,Nat.pow_zero,Nat.mul_one,K])]
theorem rep_zero (M r:Nat) (h:Rep M r):r=0 ↔ M=0:=by
 rw [←val_inj,h.2,val_zero,Nat.mul_eq_zero]
 have:=K_pos
 omega
theorem read_word (s:Bool) (r:Nat) (hr:r<9218868437227405312):Ieee.double.read (Ieee.double.word s r) = .number s (mag r) (-1074+(ex r:Nat)):=by
 rw [word_f]
 cases s
 ·simp only [Bool.false_eq_true,if_false]
  exact read_pos r hr
 ·simp only [if_true]
  have e1:(9223372036854775808+r) % 9223372036854775808=r:=by omega
  have e2:(9223372036854775808+r) / 9223372036854775808 % 2=1:=by omega
  rw [read_fin _ (by omega),e1,e2]
  rfl
theorem fromInt_is (n v:Int) (h:((floatOfInt .f64 n:Nat):Int)=v) (w:World) :
 Calls Tryz.prog 164 #[.int .i64 n] w fun e w'=>e = .returned (.int .u64 v)∧w=w':=h ▸ fromInt_any n w
end Go.Proofs.YteijjaabngkbjaaGreatDoor.F
namespace Go.Proofs.YteijjaabngkbjaaGreatDoor.F
open Go.RowKit Fl
theorem quo_some (m k:Nat) (hm:m≤9007199254740992) (hk:k≤9007199254740992) (hk0:k≠0) :
 ∃r:Nat,floatBits .quo .f64 (floatOfInt .f64 (m:Int)) (floatOfInt .f64 (k:Int))=some r∧nan (r:Int)=false:=by
 obtain ⟨rm,h1⟩:=rep_of m hm
 obtain ⟨rk,h2⟩:=rep_of k hk
 have z:rk≠0:=fun h=>hk0 ((rep_zero k rk h2).1 h)
 rw [fi_word (m:Int) rm (by simpa using h1),fi_word (k:Int) rk (by simpa using h2)]
 change ∃r:Nat,Ieee.double.div _ _=some r∧_
 unfold Ieee.Format.div
 rw [read_word _ _ h1.1,read_word _ _ h2.1]
 simp only [Ieee.Datum.quotient]
 rw [if_neg (mag_pos rk z)]
 simp only [Option.map_some,Ieee.Format.write]
 refine ⟨_,rfl,?_⟩
 rw [nearest_rung]
 exact (nan_word _ _ (rung_le _ _)).1
def quoS (m k:Nat):Nat:=(floatBits .quo .f64 (floatOfInt .f64 (m:Int)) (floatOfInt .f64 (k:Int))).getD 0
theorem quoS_some (m k:Nat) (hm:m≤9007199254740992) (hk:k≤9007199254740992) (hk0:k≠0) :
 floatBits .quo .f64 (floatOfInt .f64 (m:Int)) (floatOfInt .f64 (k:Int))=some (quoS m k)∧nan (quoS m k:Int)=false:=by
 obtain ⟨r,h1,h2⟩:=quo_some m k hm hk hk0
 have:quoS m k=r:=by unfold quoS;rw [h1];rfl
 rw [this]
 exact ⟨h1,h2⟩
def allD (l:List UInt8):Bool:=l.all isd && !l.isEmpty
theorem allDigits_walk (l:List UInt8) (v:Bool) (hl:l.length≤9223372036854775807) (hv:Hidden (l.all isd=v)) (w:World) :
 Calls Tryz.prog 162 #[.string ⟨l.toArray⟩] w fun e w'=>e = .returned (.bool (v && !l.isEmpty))∧w=w':=by
 have hs:=str_len l
 go_enter Tryz.func162,Tryz.ntmps162
 go_wp2
 go_loopg [6] l.length (fun k iv wr=>∃j:Nat,iv = .int .i64 (j:Int)∧j≤l.length∧(l.drop j).all isd=v∧k=l.length - j∧wr=w)
 case atStart=>exact ⟨0,rfl,by omega,hv,rfl,rfl⟩
 case round =>
  obtain ⟨j,rfl,hj,hf,hgk,rfl⟩:=hrel
  have hgkH:Hidden (gk=l.length - j):=hgk
  clear hgk
  by_cases hjl:j<l.length
  ·obtain ⟨c,hc⟩:∃c,l[j]?=some c:=⟨l[j],List.getElem?_eq_getElem hjl⟩
   have hdr:l.drop j=c::l.drop (j+1):=by
    have:=List.drop_eq_getElem_cons hjl
    rw [List.getElem?_eq_getElem hjl] at hc
    cases hc
    exact this
   rw [hdr,List.all_cons] at hf
   have hx:=str_index l j c hc
   have kd:=isDigit_any c
   clear hdr hc
   cases hdg:isd c
   ·rw [hdg] at hf kd
    rw [Bool.false_and] at hf
    subst hf
    clear hdg
    go_wp2_with (go_at_call 201;refine (kd _).mono ?_;rintro e w' ⟨rfl,rfl⟩)
    go_ret
    exact ⟨rfl,rfl⟩
   ·rw [hdg] at hf kd
    rw [Bool.true_and] at hf
    have hfH:Hidden ((l.drop (j+1)).all isd=v):=hf
    clear hdg hf
    go_wp2_with (go_at_call 201;refine (kd _).mono ?_;rintro e w' ⟨rfl,rfl⟩)
    go_roundg (l.length - (j+1))
    case measure =>
     have:gk=l.length - j:=hgkH
     omega
    case rel=>exact ⟨j+1,by go_num,by omega,hfH,rfl,rfl⟩
  ·obtain rfl:j=l.length:=by omega
   rw [List.drop_length] at hf
   obtain rfl:true=v:=hf
   clear hv
   go_wp2
   go_ret
   exact ⟨by simp,rfl⟩
theorem allDigits_is (l:List UInt8) (v:Bool) (hv:allD l=v) (hl:l.length≤9223372036854775807) (w:World) :
 Calls Tryz.prog 162 #[.string ⟨l.toArray⟩] w fun e w'=>e = .returned (.bool v)∧w=w':=by
 have:=allDigits_walk l _ hl rfl w
 rw [←hv]
 exact this
def stepD (m:Nat) (c:UInt8):Nat:=m*10+(c.toNat - 48)
def numD (l:List UInt8):Nat:=l.foldl stepD 0
theorem isd_lt (c:UInt8) (h:isd c=true):∃D,c.toNat=D+48∧D≤9:=by
 have hcb:48≤c.toNat∧c.toNat≤57:=by simpa [isd] using h
 exact ⟨c.toNat - 48,by omega,by omega⟩
theorem numD_lt (l:List UInt8):∀(m k:Nat),l.all isd=true→m<10 ^ k→l.foldl stepD m<10 ^ (k+l.length):=by
 induction l with
 | nil=>intro m k _ h;simpa using h
 | cons c l ih =>
   intro m k h hm
   rw [List.all_cons,Bool.and_eq_true] at h
   obtain ⟨D,hD,hD9⟩:=isd_lt c h.1
   rw [List.foldl_cons,List.length_cons,show k+(l.length+1)=k+1+l.length by omega]
   refine ih _ _ h.2 ?_
   unfold stepD
   rw [Nat.pow_succ]
   omega
def litS (s:List UInt8):Int × Int :=
 if (cut1 s 46).2.2 && allD (cut1 s 46).1 && allD (cut1 s 46).2.1 then
  if 15<(cut1 s 46).1.length+(cut1 s 46).2.1.length then (0,3) else ((quoS (numD ((cut1 s 46).1++(cut1 s 46).2.1)) (10 ^ (cut1 s 46).2.1.length):Nat),0)
 else (0,10)
theorem kb_iter (w:World) (s:ByteArray) (pos:Nat):Kb w (w.iter s pos):=by
 refine ⟨⟨rfl,rfl,fun i hi=>?_⟩,by show w.heap.size≤(w.heap.push _).size;rw [Array.size_push];omega⟩
 have e:(w.iter s pos).heap[i]?=w.heap[i]?:=by
  show (w.heap.push _)[i]?=_
  rw [Array.getElem?_push_lt hi]
  exact (Array.getElem?_eq_getElem hi).symm
 rw [e]
 cases w.heap[i]? with
 | none=>rfl
 | some o=>cases o<;>simp
theorem pow10_le (k:Nat) (h:k≤15):10 ^ k≤1000000000000000:=Nat.pow_le_pow_right (by decide) h
theorem next_digit (w:World) (q:List UInt8) (j:Nat) (c:UInt8) (hc:q[j]?=some c) (h:c.toNat<128) (ty:TypeId) :
 (Instr.next (.pointer (some ⟨w.heap.size,0,none⟩)) true ty).run Tryz.prog (w.iter ⟨q.toArray⟩ j) = .ok (.tuple #[.bool true,.int .i64 (j:Int),.int .i32 (c.toNat:Int)]) (w.iter ⟨q.toArray⟩ (j+1)):=by
 obtain ⟨hk,hcc⟩:=List.getElem?_eq_some_iff.1 hc
 have hs:j<(⟨q.toArray⟩:ByteArray).size:=by simpa [ByteArray.size] using hk
 have e:(⟨q.toArray⟩:ByteArray)[j]'hs=c:=by
  show q.toArray[j]=c
  simpa using hcc
 have:=run_next_ascii (P:=Tryz.prog) w ⟨q.toArray⟩ j ty hs (by rw [e];exact h)
 rw [e] at this
 exact this
theorem lit_good (s b a q:List UInt8) (N:Nat) (hs:s.length≤9223372036854775807) (hcut:Hidden (cut1 s 46=(b,a,true))) (hA:Hidden (allD b=true)) (hB:Hidden (allD a=true)) (hq:Hidden (b++a=q)) (hL:b.length+a.length≤15) (hN:Hidden (numD q=N)) (w:World) :
 Calls Tryz.prog 125 #[.string ⟨s.toArray⟩] w fun r w'=>r = .returned (.tuple #[.int .u64 (quoS N (10 ^ a.length):Nat),.int .i64 0])∧Kb w w':=by
 have k1:=cut_any s 46 b a true hcut hs
 have hA2:allD b=true:=hA
 have hB2:allD a=true:=hB
 have hlb:b.length≤9223372036854775807:=by omega
 have hla:a.length≤9223372036854775807:=by omega
 have hb:=str_len b
 have ha:=str_len a
 have hcat:=fun W:World=>run_string_add_lists (P:=Tryz.prog) W b a (by omega) (by omega)
 rw [show b++a=q from hq] at hcat
 have hql:q.length=b.length+a.length:=by rw [←show b++a=q from hq];simp
 have hqd:Hidden (q.all isd=true):=by
  have h1:allD b=true:=hA
  have h2:allD a=true:=hB
  unfold allD at h1 h2
  rw [Bool.and_eq_true] at h1 h2
  show _=_
  rw [←show b++a=q from hq,List.all_append,h1.1,h2.1]
  rfl
 have hNb:N<10 ^ q.length:=by
  have:=numD_lt q 0 0 hqd (by decide)
  rw [←show numD q=N from hN]
  rw [Nat.zero_add] at this
  exact this
 have hp15:Hidden (10 ^ q.length≤1000000000000000):=pow10_le q.length (by omega)
 have hpa:=pow10_le a.length (by omega)
 have hpa0:10 ^ a.length≠0:=by have:=Nat.pow_pos (n:=a.length) (show 0<10 by decide);omega
 obtain ⟨hq1,hq2⟩:=quoS_some N (10 ^ a.length) (by have:10 ^ q.length≤1000000000000000:=hp15;omega) (by omega) hpa0
 have kdv:=div_exact (floatOfInt .f64 (N:Int):Nat) (floatOfInt .f64 ((10 ^ a.length:Nat):Int):Nat) _ (by simpa using hq1) hq2
 generalize quoS N (10 ^ a.length)=V at *
 generalize hPP:10 ^ a.length=PP at *
 generalize hX:((floatOfInt .f64 (N:Int):Nat):Int)=X at *
 generalize hY:((floatOfInt .f64 (PP:Int):Nat):Int)=Y at *
 have hPH:Hidden (10 ^ a.length=PP):=hPP
 have hNH:Hidden (N<10 ^ q.length):=hNb
 have hq15:q.length≤15:=by omega
 clear hPP hq1 hq2 hpa0 hNb hql
 go_enter Tryz.func125,Tryz.ntmps125
 go_wp2_with (first
  | (go_at_call 161;refine (k1 _).mono ?_;rintro e W1 ⟨rfl,g⟩)
  | (go_at_call 162;refine (allDigits_is _ _ (by with_reducible assumption) (by with_reducible assumption) _).mono ?_;rintro e w' ⟨rfl,rfl⟩))
 go_loopg [7] q.length (fun k mv wr=>∃j acc:Nat,mv = .int .i64 (acc:Int)∧j≤q.length∧acc<10 ^ j∧(q.drop j).foldl stepD acc=N∧k=q.length - j∧wr=W1.iter ⟨q.toArray⟩ j)
 case atStart=>exact ⟨0,0,rfl,by omega,by simp,hN,rfl,rfl⟩
 case round =>
  obtain ⟨j,acc,rfl,hj,hacc,hf,hgk,rfl⟩:=hrel
  have hgkH:Hidden (gk=q.length - j):=hgk
  have haccH:Hidden (acc<10 ^ j):=hacc
  have hab:acc<1000000000000000:=Nat.lt_of_lt_of_le hacc (pow10_le j (by omega))
  clear hgk hacc
  by_cases hjl:j<q.length
  ·obtain ⟨c,hc⟩:∃c,q[j]?=some c:=⟨q[j],List.getElem?_eq_getElem hjl⟩
   have hdr:q.drop j=c::q.drop (j+1):=by
    have:=List.drop_eq_getElem_cons hjl
    rw [List.getElem?_eq_getElem hjl] at hc
    cases hc
    exact this
   have hci:isd c=true:=by
    have h1:q.all isd=true:=hqd
    rw [List.all_eq_true] at h1
    exact h1 c (List.mem_of_getElem? hc)
   obtain ⟨D,hD,hD9⟩:=isd_lt c hci
   rw [hdr,List.foldl_cons,stepD,hD,Nat.add_sub_cancel] at hf
   have hnx:=next_digit W1 q j c hc (by omega)
   rw [show ((c.toNat:Nat):Int)=(D:Int)+48 by omega] at hnx
   have hfH:Hidden ((q.drop (j+1)).foldl stepD (acc*10+D)=N):=hf
   have hp2:Hidden (acc*10+D<10 ^ (j+1)):=by
    show _<_
    have:acc<10 ^ j:=haccH
    rw [Nat.pow_succ]
    omega
   clear hdr hc hci hD hf
   go_wp2
   go_roundg (q.length - (j+1))
   case measure =>
    have:gk=q.length - j:=hgkH
    omega
   case rel=>exact ⟨j+1,acc*10+D,by go_num,by omega,hp2,hfH,rfl,rfl⟩
  ·obtain rfl:j=q.length:=by omega
   rw [List.drop_length,List.foldl_nil] at hf
   subst hf
   have hnx:=fun ty=>run_next_end (P:=Tryz.prog) W1 ⟨q.toArray⟩ q.length ty (by simp [ByteArray.size])
   go_wp2
   go_loopg [8,50] a.length (fun k pv iv wr=>∃j p:Nat,pv = .int .i64 (p:Int)∧iv = .int .i64 (j:Int)∧p=10 ^ j∧j≤a.length∧k=a.length - j∧wr=W1.iter ⟨q.toArray⟩ q.length)
   case atStart=>exact ⟨0,1,rfl,rfl,by simp,by omega,rfl,rfl⟩
   case round =>
    obtain ⟨i,p,rfl,rfl,hp,hi,hgk2,rfl⟩:=hrel
    have hgkH2:Hidden (gk=a.length - i):=hgk2
    have hpb:=pow10_le i (by omega)
    rw [←hp] at hpb
    have hpH:Hidden (p=10 ^ i):=hp
    clear hp hgk2
    by_cases hia:i<a.length
    ·have hpn:Hidden (p*10=10 ^ (i+1)):=by
      show _=_
      rw [Nat.pow_succ,←show p=10 ^ i from hpH]
     go_wp2
     go_roundg (a.length - (i+1))
     case measure =>
      have:gk=a.length - i:=hgkH2
      omega
     case rel=>exact ⟨i+1,p*10,by go_num,by go_num,hpn,by omega,rfl,rfl⟩
    ·obtain rfl:i=a.length:=by omega
     obtain rfl:p=PP:=(show p=_ from hpH).trans hPH
     go_wp2_with (first
      | (go_at_call 164;refine (fromInt_is _ _ (by with_reducible assumption) _).mono ?_;rintro e w' ⟨rfl,rfl⟩)
      | (go_at_call 163;refine (kdv _).mono ?_;rintro e w' ⟨rfl,rfl⟩))
     go_ret2
     exact ⟨rfl,g.trans (kb_iter _ _ _)⟩
theorem lit_bad (s b a:List UInt8) (fd A B:Bool) (hs:s.length≤9223372036854775807) (hcut:cut1 s 46=(b,a,fd)) (hA:allD b=A) (hB:allD a=B) (hlb:b.length≤9223372036854775807) (hla:a.length≤9223372036854775807) (h:(fd && A && B)=false) (w:World) :
 Calls Tryz.prog 125 #[.string ⟨s.toArray⟩] w fun r w'=>r = .returned (.tuple #[.int .u64 0,.int .i64 10])∧Kb w w':=by
 have k1:=cut_any s 46 b a fd hcut hs
 clear hcut
 cases fd
 ·clear h hA hB
  go_enter Tryz.func125,Tryz.ntmps125
  go_wp2_with (first
   | (go_at_call 161;refine (k1 _).mono ?_;rintro e W1 ⟨rfl,g⟩))
  go_ret2
  exact ⟨rfl,g⟩
 ·cases A
  ·clear h hB
   go_enter Tryz.func125,Tryz.ntmps125
   go_wp2_with (first
    | (go_at_call 161;refine (k1 _).mono ?_;rintro e W1 ⟨rfl,g⟩)
    | (go_at_call 162;refine (allDigits_is _ _ (by with_reducible assumption) (by with_reducible assumption) _).mono ?_;rintro e w' ⟨rfl,rfl⟩))
   go_ret2
   exact ⟨rfl,g⟩
  ·cases B
   ·clear h
    go_enter Tryz.func125,Tryz.ntmps125
    go_wp2_with (first
     | (go_at_call 161;refine (k1 _).mono ?_;rintro e W1 ⟨rfl,g⟩)
     | (go_at_call 162;refine (allDigits_is _ _ (by with_reducible assumption) (by with_reducible assumption) _).mono ?_;rintro e w' ⟨rfl,rfl⟩))
    go_ret2
    exact ⟨rfl,g⟩
   ·cases h
theorem lit_big (s b a:List UInt8) (hs:s.length≤9223372036854775807) (hcut:cut1 s 46=(b,a,true)) (hA:allD b=true) (hB:allD a=true) (hlb:b.length≤9223372036854775807) (hla:a.length≤9223372036854775807) (hlab:b.length+a.length≤9223372036854775807) (h:15<b.length+a.length) (w:World) :
 Calls Tryz.prog 125 #[.string ⟨s.toArray⟩] w fun r w'=>r = .returned (.tuple #[.int .u64 0,.int .i64 3])∧Kb w w':=by
 have k1:=cut_any s 46 b a true hcut hs
 have hb:=str_len b
 have ha:=str_len a
 clear hcut
 go_enter Tryz.func125,Tryz.ntmps125
 go_wp2_with (first
  | (go_at_call 161;refine (k1 _).mono ?_;rintro e W1 ⟨rfl,g⟩)
  | (go_at_call 162;refine (allDigits_is _ _ (by with_reducible assumption) (by with_reducible assumption) _).mono ?_;rintro e w' ⟨rfl,rfl⟩))
 go_ret2
 exact ⟨rfl,g⟩
theorem cut_lens (s b a:List UInt8) (c:UInt8) (fd:Bool) (h:cut1 s c=(b,a,fd)):b.length+a.length≤s.length:=by
 unfold cut1 at h
 have hb:=indexByte_lt s c
 split at h
 ·cases h
  simp
  omega
 ·cases h
  simp
theorem lit_any (s:List UInt8) (v e:Int) (h:litS s=(v,e)) (hs:s.length≤9223372036854775807) (w:World) :
 Calls Tryz.prog 125 #[.string ⟨s.toArray⟩] w fun r w'=>r = .returned (.tuple #[.int .u64 v,.int .i64 e])∧Kb w w':=by
 obtain ⟨b,a,fd,hcut⟩:∃b a fd,cut1 s 46=(b,a,fd):=⟨_,_,_,rfl⟩
 have hlen:=cut_lens s b a 46 fd hcut
 unfold litS at h
 rw [hcut] at h
 simp only at h
 cases hg:(fd && allD b && allD a)
 ·rw [hg] at h
  cases h
  exact lit_bad s b a fd _ _ hs hcut rfl rfl (by omega) (by omega) hg w
 ·rw [hg] at h
  simp only [if_true] at h
  rw [Bool.and_eq_true,Bool.and_eq_true] at hg
  obtain ⟨⟨g1,g2⟩,g3⟩:=hg
  subst g1
  by_cases c:15<b.length+a.length
  ·rw [if_pos c] at h
   cases h
   exact lit_big s b a hs hcut g2 g3 (by omega) (by omega) (by omega) c w
  ·rw [if_neg c] at h
   cases h
   exact lit_good s b a _ _ hs hcut g2 g3 rfl (by omega) rfl w
end Go.Proofs.YteijjaabngkbjaaGreatDoor.F
namespace Go.Proofs.YteijjaabngkbjaaGreatDoor.F
open Go.RowKit Fl
end Go.Proofs.YteijjaabngkbjaaGreatDoor.F
namespace Go.Proofs.YteijjaabngkbjaaGreatDoor.I
def Hidden (p:Prop):Prop:=p
def isd (c:UInt8):Bool:=decide (48≤c.toNat) && decide (c.toNat≤57)
def stepD (m:Nat) (c:UInt8):Nat:=m*10+(c.toNat - 48)
def numD (l:List UInt8):Nat:=l.foldl stepD 0
def runD:List UInt8→Nat
 | []=>0
 | c::r=>if isd c then runD r+1 else 0
theorem isd_lt (c:UInt8) (h:isd c=true):∃D,c.toNat=D+48∧D≤9:=by
 have hcb:48≤c.toNat∧c.toNat≤57:=by simpa [isd] using h
 exact ⟨c.toNat - 48,by omega,by omega⟩
theorem runD_le (l:List UInt8):runD l≤l.length:=by
 induction l with
 | nil=>simp [runD]
 | cons c r ih =>
   unfold runD
   split<;>simp<;>omega
theorem runD_all (l:List UInt8):runD l=l.length ↔ l.all isd=true:=by
 induction l with
 | nil=>simp [runD]
 | cons c r ih =>
   have:=runD_le r
   unfold runD
   cases h:isd c
   ·simp [h]
   ·simp only [if_true,List.length_cons,List.all_cons,h,Bool.true_and]
    rw [←ih]
    omega
theorem numD_snoc (l:List UInt8) (c:UInt8):numD (l++[c])=numD l*10+(c.toNat - 48):=by
 unfold numD
 rw [List.foldl_append]
 rfl
def amtS (most:Nat) (l:List UInt8):Int × Int × Int :=
 if runD l<l.length then (0,(runD l:Int),10)
 else if l.length=0 then (0,0,10)
 else if 1<l.length∧l.head?=some 48 then (0,0,10)
 else if most<numD l then (0,0,80)
 else ((numD l:Int),0,0)
def natS (l:List UInt8):Int × Int × Int:=amtS 9223372036854775807 l
theorem ofNat_toNat (d:Nat) (h:d<10):(UInt8.ofNat (48+d)).toNat=d+48:=by
 rw [UInt8.toNat_ofNat']
 omega
theorem dec_of_num:∀(k:Nat) (l:List UInt8),l.length=k→l.all isd=true→0<l.length→(1<l.length→l.head?≠some 48)→Go.Lib.decDigits (numD l)=l∧(l.head?≠some 48→1≤numD l):=by
 intro k
 induction k with
 | zero=>intro l h _ h0 _;omega
 | succ k ih =>
   intro l hl ha h0 hh
   rcases List.eq_nil_or_concat l with rfl | ⟨l',c,hlc⟩
   ·simp at h0
   rw [List.concat_eq_append] at hlc
   subst hlc
   rw [List.all_append,Bool.and_eq_true] at ha
   obtain ⟨D,hD,hD9⟩:=isd_lt c (by simpa using ha.2)
   rw [numD_snoc,hD]
   rw [Nat.add_sub_cancel]
   by_cases hn:l'=[]
   ·subst hn
    have e0:numD ([]:List UInt8)=0:=rfl
    rw [e0,Nat.zero_mul,Nat.zero_add,Go.Lib.decDigits,dif_pos (by omega)]
    constructor
    ·simp only [List.nil_append,List.cons.injEq,and_true]
     apply UInt8.toNat_inj.1
     rw [ofNat_toNat D (by omega),hD]
    ·intro h48
     have:c≠48:=by simpa using h48
     have:D≠0:=by
      intro hz
      subst hz
      exact this (UInt8.toNat_inj.1 (by rw [hD];rfl))
     omega
   ·have hpos:0<l'.length:=List.length_pos_iff.2 hn
    have hhd:(l'++[c]).head?=l'.head?:=by
     cases l' with
     | nil=>exact absurd rfl hn
     | cons=>rfl
    rw [hhd] at hh ⊢
    have hne:l'.head?≠some 48:=hh (by simp;omega)
    obtain ⟨i1,i2⟩:=ih l' (by simpa using hl) ha.1 hpos (fun _=>hne)
    have i3:=i2 hne
    rw [Go.Lib.decDigits,dif_neg (by omega)]
    rw [show (numD l'*10+D) / 10=numD l' by omega,show (numD l'*10+D) % 10=D by omega,i1]
    refine ⟨?_,fun _=>by omega⟩
    congr 2
    apply UInt8.toNat_inj.1
    rw [ofNat_toNat D (by omega),hD]
theorem amt_ok (most:Nat) (l:List UInt8) (v p:Int) (h:amtS most l=(v,p,0)):p=0∧0≤v∧v≤most∧Go.Lib.decDigits v.toNat=l:=by
 unfold amtS at h
 have hle:=runD_le l
 split at h
 ·simp at h
 split at h
 ·simp at h
 split at h
 ·simp at h
 split at h
 ·simp at h
 rename_i h1 h2 h3 h4
 simp only [Prod.mk.injEq,and_true] at h
 obtain ⟨rfl,rfl⟩:=h
 have hall:=(runD_all l).1 (by omega)
 obtain ⟨k1,k2⟩:=dec_of_num l.length l rfl hall (by omega) (fun hlt hc=>h3 ⟨hlt,hc⟩)
 exact ⟨rfl,by omega,by omega,by simpa using k1⟩
theorem amt_err (most:Nat) (l:List UInt8) (v p e:Int) (h:amtS most l=(v,p,e)) (he:e≠0):v=0∧0≤p∧p≤l.length:=by
 unfold amtS at h
 have hle:=runD_le l
 repeat' split at h
 all_goals
  simp only [Prod.mk.injEq] at h
  obtain ⟨rfl,rfl,rfl⟩:=h
  first | exact absurd rfl he | exact ⟨rfl,by omega,by omega⟩
end Go.Proofs.YteijjaabngkbjaaGreatDoor.I
namespace Go.Proofs.YteijjaabngkbjaaGreatDoor.I
def I64 (a:Int):Prop:=-9223372036854775808≤a∧a≤9223372036854775807
end Go.Proofs.YteijjaabngkbjaaGreatDoor.I
namespace Go.Proofs.YteijjaabngkbjaaGreatDoor.I
open Go.RowKit
theorem call_add64 (x y c s d:Int) (hx:0≤x) (hy:0≤y) (hc0:0≤c) (hc:c≤1) (hs:(x+y+c) % 18446744073709551616=s) (hd:(x+y+c) / 18446744073709551616=d) (w:World) :
 (callFunc 233 #[.int .u64 x,.int .u64 y,.int .u64 c]).run Tryz.prog w = .ok (.value (.tuple #[.int .u64 s,.int .u64 d])) w:=by
 subst hs hd
 rw [run_callFunc_extern (e:=add64Entry) Tryz.func233 (by kernel_rfl) (by kernel_rfl) (by kernel_rfl) (by kernel_rfl),run_add64 x y c hx hy hc0 hc]
 rfl
end Go.Proofs.YteijjaabngkbjaaGreatDoor.I
namespace Go.Proofs.YteijjaabngkbjaaGreatDoor.I
open Go.RowKit
theorem wrap64_I {z:Int} (h:I64 z):wrap64 z=z:=by
 obtain ⟨_,_⟩:=h
 unfold wrap64
 omega
end Go.Proofs.YteijjaabngkbjaaGreatDoor.I
namespace Go.Proofs.YteijjaabngkbjaaGreatDoor.I
open Go.RowKit
theorem mul64_is (x y h l:Int) (hx:0≤x) (hx1:x<18446744073709551616) (hy:0≤y) (hy1:y<18446744073709551616) (hh:x*y / 18446744073709551616=h) (hl:x*y % 18446744073709551616=l) (w:World) :
 Calls Tryz.prog 232 #[.int .u64 x,.int .u64 y] w fun e w'=>e = .returned (.tuple #[.int .u64 h,.int .u64 l])∧w=w':=by
 obtain ⟨X,rfl⟩:=Int.eq_ofNat_of_zero_le hx
 obtain ⟨Y,rfl⟩:=Int.eq_ofNat_of_zero_le hy
 subst hh hl
 refine (Tryz.bits_Mul64 X Y (by omega) (by omega) w).mono ?_
 rintro e w' ⟨rfl,rfl⟩
 refine ⟨?_,rfl⟩
 have e1:((X*Y / 18446744073709551616:Nat):Int)=(X:Int)*Y / 18446744073709551616:=by rw [Int.natCast_ediv,Int.natCast_mul];rfl
 have e2:((X*Y % 18446744073709551616:Nat):Int)=(X:Int)*Y % 18446744073709551616:=by rw [Int.natCast_emod,Int.natCast_mul];rfl
 rw [e1,e2]
end Go.Proofs.YteijjaabngkbjaaGreatDoor.I
namespace Go.Proofs.YteijjaabngkbjaaGreatDoor.I
open Go.RowKit
def Kb (w w':World):Prop:=w.keptBut w' (fun _=>False)∧w.heap.size≤w'.heap.size
theorem kb_iter (w:World) (s:ByteArray) (pos:Nat):Kb w (w.iter s pos):=by
 refine ⟨⟨rfl,rfl,fun i hi=>?_⟩,by show w.heap.size≤(w.heap.push _).size;rw [Array.size_push];omega⟩
 have e:(w.iter s pos).heap[i]?=w.heap[i]?:=by
  show (w.heap.push _)[i]?=_
  rw [Array.getElem?_push_lt hi]
  exact (Array.getElem?_eq_getElem hi).symm
 rw [e]
 cases w.heap[i]? with
 | none=>rfl
 | some o=>cases o<;>simp
theorem next_digit (w:World) (q:List UInt8) (j:Nat) (c:UInt8) (hc:q[j]?=some c) (h:c.toNat<128) (ty:TypeId) :
 (Instr.next (.pointer (some ⟨w.heap.size,0,none⟩)) true ty).run Tryz.prog (w.iter ⟨q.toArray⟩ j) = .ok (.tuple #[.bool true,.int .i64 (j:Int),.int .i32 (c.toNat:Int)]) (w.iter ⟨q.toArray⟩ (j+1)):=by
 obtain ⟨hk,hcc⟩:=List.getElem?_eq_some_iff.1 hc
 have hs:j<(⟨q.toArray⟩:ByteArray).size:=by simpa [ByteArray.size] using hk
 have e:(⟨q.toArray⟩:ByteArray)[j]'hs=c:=by
  show q.toArray[j]=c
  simpa using hcc
 have:=run_next_ascii (P:=Tryz.prog) w ⟨q.toArray⟩ j ty hs (by rw [e];exact h)
 rw [e] at this
 exact this
theorem next_high (w:World) (q:List UInt8) (j:Nat) (c:UInt8) (hc:q[j]?=some c) (h:128≤c.toNat) :
 ∃r p:Nat,128≤r∧r≤2147483647∧∀ty,(Instr.next (.pointer (some ⟨w.heap.size,0,none⟩)) true ty).run Tryz.prog (w.iter ⟨q.toArray⟩ j) = .ok (.tuple #[.bool true,.int .i64 (j:Int),.int .i32 (r:Int)]) (w.iter ⟨q.toArray⟩ p):=by
 obtain ⟨hk,hcc⟩:=List.getElem?_eq_some_iff.1 hc
 have hs:j<(⟨q.toArray⟩:ByteArray).size:=by simpa [ByteArray.size] using hk
 have e:(⟨q.toArray⟩:ByteArray)[j]'hs=c:=by
  show q.toArray[j]=c
  simpa using hcc
 exact ⟨_,_,(decode_high _ j hs (by rw [e];exact h)).1,decode_le _ _,fun ty=>run_next_any (P:=Tryz.prog) w ⟨q.toArray⟩ j ty hs⟩
theorem next_end (w:World) (q:List UInt8) (ty:TypeId) :
 (Instr.next (.pointer (some ⟨w.heap.size,0,none⟩)) true ty).run Tryz.prog (w.iter ⟨q.toArray⟩ q.length) = .ok (.tuple #[.bool false]) (w.iter ⟨q.toArray⟩ q.length) :=
 run_next_end (P:=Tryz.prog) w ⟨q.toArray⟩ q.length ty (by simp [ByteArray.size])
theorem str_len (t:List UInt8):((⟨t.toArray⟩:ByteArray).size:Int)=(t.length:Int):=by simp [ByteArray.size]
theorem str_index (l:List UInt8) (k:Nat) (c:UInt8) (h:l[k]?=some c) (w:World) :
 (Instr.index 9 (.string ⟨l.toArray⟩) (.int .i64 (k:Int))).run Tryz.prog w = .ok (.int .u8 (c.toNat:Int)) w:=by
 obtain ⟨hk,hc⟩:=List.getElem?_eq_some_iff.1 h
 have hs:k<(⟨l.toArray⟩:ByteArray).size:=by simpa [ByteArray.size] using hk
 rw [run_index_string _ _ _ _ _ Tryz.underlying9,dif_pos ⟨by omega,by omega⟩]
 have e:(⟨l.toArray⟩:ByteArray)[k]'hs=c:=by
  show l.toArray[k]=c
  simpa using hc
 simp only [Int.toNat_natCast]
 rw [e]
end Go.Proofs.YteijjaabngkbjaaGreatDoor.I
namespace Go.Proofs.YteijjaabngkbjaaGreatDoor.I
open Go.RowKit
theorem ad_yes (a d m:Nat) (hm:m≤9223372036854775808) (hd:d≤9) (h:a*10+d≤m) (w:World) :
 Calls Tryz.prog 199 #[.int .u64 (a:Int),.int .u64 (d:Int),.int .u64 (m:Int)] w fun e w'=>e = .returned (.tuple #[.int .u64 ((a*10+d:Nat):Int),.bool true])∧w=w':=by
 have k1:=mul64_is (a:Int) 10 0 ((a*10:Nat):Int) (by omega) (by omega) (by omega) (by omega) (by omega) (by omega)
 have k2:=call_add64 ((a*10:Nat):Int) (d:Int) 0 ((a*10+d:Nat):Int) 0 (by omega) (by omega) (by omega) (by omega) (by omega) (by omega)
 have c1:¬(m:Int)<((a*10+d:Nat):Int):=by omega
 generalize ((a*10+d:Nat):Int)=S at *
 generalize ((a*10:Nat):Int)=T at *
 clear h
 go_enter Tryz.func199,Tryz.ntmps199
 go_wp2_with (go_at_call 232;refine (k1 _).mono ?_;rintro e w' ⟨rfl,rfl⟩)
 go_ret2
 exact ⟨rfl,rfl⟩
theorem ad_no (a d m:Nat) (ha:a≤m) (hm:m≤9223372036854775808) (hd:d≤9) (h:m<a*10+d) (w:World) :
 Calls Tryz.prog 199 #[.int .u64 (a:Int),.int .u64 (d:Int),.int .u64 (m:Int)] w fun e w'=>e = .returned (.tuple #[.int .u64 0,.bool false])∧w=w':=by
 have k1:=mul64_is (a:Int) 10 _ _ (by omega) (by omega) (by omega) (by omega) rfl rfl
 have k2:=call_add64 ((a:Int)*10 % 18446744073709551616) (d:Int) 0 _ _ (by omega) (by omega) (by omega) (by omega) rfl rfl
 have hc:((a:Int)*10 / 18446744073709551616 != 0)=true∨((a:Int)*10 / 18446744073709551616 != 0)=false∧(((a:Int)*10 % 18446744073709551616+(d:Int)+0) / 18446744073709551616 != 0)=true∨((a:Int)*10 / 18446744073709551616 != 0)=false∧(((a:Int)*10 % 18446744073709551616+(d:Int)+0) / 18446744073709551616 != 0)=false∧(m:Int)<((a:Int)*10 % 18446744073709551616+(d:Int)+0) % 18446744073709551616:=by
  simp only [bne_iff_ne,ne_eq,bne_eq_false_iff_eq]
  omega
 generalize ((a:Int)*10 % 18446744073709551616+(d:Int)+0) % 18446744073709551616=S at *
 generalize ((a:Int)*10 % 18446744073709551616+(d:Int)+0) / 18446744073709551616=C at *
 generalize (a:Int)*10 / 18446744073709551616=H at *
 generalize (a:Int)*10 % 18446744073709551616=T at *
 clear h ha
 rcases hc with c1 | ⟨c1,c2⟩ | ⟨c1,c2,c3⟩
 all_goals
  go_enter Tryz.func199,Tryz.ntmps199
  go_wp2_with (go_at_call 232;refine (k1 _).mono ?_;rintro e w' ⟨rfl,rfl⟩)
  go_ret2
  exact ⟨rfl,rfl⟩
theorem runD_at (l:List UInt8):∀(j:Nat) (c:UInt8),l[j]?=some c→j≤runD l→(isd c=false→runD l=j)∧(isd c=true→j+1≤runD l):=by
 induction l with
 | nil=>intro j c h;simp at h
 | cons b r ih =>
   intro j c h hj
   cases j with
   | zero =>
     obtain rfl:b=c:=by simpa using h
     unfold runD
     constructor
     ·intro hb;simp [hb]
     ·intro hb;simp [hb]
   | succ j =>
     unfold runD at hj ⊢
     cases hb:isd b
     ·rw [hb] at hj;simp at hj
     ·rw [hb] at hj
      simp only [if_true] at hj ⊢
      obtain ⟨i1,i2⟩:=ih j c (by simpa using h) (by omega)
      exact ⟨fun hc=>by rw [i1 hc],fun hc=>by have:=i2 hc;omega⟩
theorem numD_take (l:List UInt8) (j:Nat) (c:UInt8) (h:l[j]?=some c):numD (l.take (j+1))=numD (l.take j)*10+(c.toNat - 48):=by
 obtain ⟨hj,hc⟩:=List.getElem?_eq_some_iff.1 h
 rw [List.take_succ_eq_append_getElem hj,hc,numD_snoc]
def St (m:Nat) (l:List UInt8) (j acc:Nat) (f:Bool):Prop :=
 j≤runD l∧((f=true∧acc=numD (l.take j)∧acc≤m)∨(f=false∧acc=0∧m<numD (l.take j)))
theorem st_yes {m:Nat} {l:List UInt8} {j acc:Nat} {c:UInt8} (h:St m l j acc true) (hc:l[j]?=some c) (hd:isd c=true) (d:Nat) (hdd:c.toNat=d+48) :
 acc≤m∧(acc*10+d≤m→St m l (j+1) (acc*10+d) true)∧(m<acc*10+d→St m l (j+1) 0 false):=by
 obtain ⟨h1,⟨_,h2,h3⟩ | ⟨h2,_⟩⟩:=h
 ·have e:=numD_take l j c hc
  rw [hdd,Nat.add_sub_cancel,←h2] at e
  have:=(runD_at l j c hc h1).2 hd
  exact ⟨h3,fun hle=>⟨this,Or.inl ⟨rfl,e.symm,hle⟩⟩,fun hlt=>⟨this,Or.inr ⟨rfl,rfl,by omega⟩⟩⟩
 ·cases h2
theorem st_no {m:Nat} {l:List UInt8} {j acc:Nat} {c:UInt8} (h:St m l j acc false) (hc:l[j]?=some c) (hd:isd c=true):St m l (j+1) acc false:=by
 obtain ⟨h1,⟨h2,_⟩ | ⟨_,h2,h3⟩⟩:=h
 ·cases h2
 ·have e:=numD_take l j c hc
  have:=(runD_at l j c hc h1).2 hd
  exact ⟨this,Or.inr ⟨rfl,h2,by omega⟩⟩
theorem st_bad {m:Nat} {l:List UInt8} {j acc:Nat} {f:Bool} {c:UInt8} (h:St m l j acc f) (hc:l[j]?=some c) (hd:isd c=false):amtS m l=(0,(j:Int),10):=by
 obtain ⟨hj,_⟩:=List.getElem?_eq_some_iff.1 hc
 have:=(runD_at l j c hc h.1).1 hd
 unfold amtS
 rw [if_pos (by omega),this]
theorem st_end {m:Nat} {l:List UInt8} {acc:Nat} {f:Bool} (h:St m l l.length acc f) :
 (l=[]→amtS m l=(0,0,10))∧(1<l.length→l.head?=some 48→amtS m l=(0,0,10))∧(l≠[]→¬(1<l.length∧l.head?=some 48)→(f=true→amtS m l=((acc:Int),0,0))∧(f=false→amtS m l=(0,0,80))):=by
 obtain ⟨h1,h2⟩:=h
 have hr:¬runD l<l.length:=by omega
 rw [List.take_length] at h2
 unfold amtS
 rw [if_neg hr]
 refine ⟨fun h=>by rw [h];rfl,fun hl hh=>?_,fun hn hh=>?_⟩
 ·rw [if_neg (by omega),if_pos ⟨hl,hh⟩]
 ·have hn':l.length≠0:=by simpa using hn
  rw [if_neg hn',if_neg hh]
  constructor
  ·intro hf
   subst hf
   rcases h2 with ⟨_,h3,h4⟩ | ⟨h3,_⟩
   ·rw [if_neg (by omega),h3]
   ·cases h3
  ·intro hf
   subst hf
   rcases h2 with ⟨h3,_⟩ | ⟨_,h3,h4⟩
   ·cases h3
   ·rw [if_pos h4]
theorem isd_no (c:UInt8) (h:isd c=false):c.toNat<48∨(¬c.toNat<48∧57<c.toNat):=by
 unfold isd at h
 simp only [Bool.and_eq_false_iff,decide_eq_false_iff_not] at h
 omega
theorem ret3 {k l o:IntKind} {a b c d e f:Int} (h:(a,b,c)=(d,e,f)):Ending.returned (.tuple #[.int k a,.int l b,.int o c]) = .returned (.tuple #[.int k d,.int l e,.int o f]):=by
 simp only [Prod.mk.injEq] at h
 rw [h.1,h.2.1,h.2.2]
theorem ra_walk (l:List UInt8) (m:Nat) (v p e:Int) (hres:Hidden (amtS m l=(v,p,e))) (hm:m≤9223372036854775808) (hl:l.length≤9223372036854775807) (hne:l.isEmpty=false) (w:World) :
 Calls Tryz.prog 160 #[.string ⟨l.toArray⟩,.int .u64 (m:Int)] w fun r w'=>r = .returned (.tuple #[.int .u64 v,.int .i64 p,.int .i64 e])∧Kb w w':=by
 have hs:=str_len l
 obtain ⟨c0,hc0⟩:∃c,l[0]?=some c:=by
  cases l with
  | nil=>simp at hne
  | cons c r=>exact ⟨c,rfl⟩
 have hx0:∀W:World,(Instr.index 9 (.string ⟨l.toArray⟩) (.int .i64 0)).run Tryz.prog W = .ok (.int .u8 (c0.toNat:Int)) W:=fun W=>str_index l 0 c0 hc0 W
 have hh0:Hidden (l.head?=some c0):=by show _=_;rw [←hc0];cases l<;>rfl
 clear hc0
 go_enter Tryz.func160,Tryz.ntmps160
 go_wp2
 go_loopg [7,8] l.length (fun k av fv wr=>∃(j acc:Nat) (f:Bool),av = .int .u64 (acc:Int)∧fv = .bool f∧j≤l.length∧St m l j acc f∧k=l.length - j∧wr=w.iter ⟨l.toArray⟩ j)
 case atStart=>exact ⟨0,0,true,rfl,rfl,by omega,⟨by omega,Or.inl ⟨rfl,rfl,by omega⟩⟩,rfl,rfl⟩
 case round =>
  obtain ⟨j,acc,f,rfl,rfl,hj,hst,hgk,rfl⟩:=hrel
  have hgkH:Hidden (gk=l.length - j):=hgk
  clear hgk
  by_cases hjl:j<l.length
  ·obtain ⟨c,hc⟩:∃c,l[j]?=some c:=⟨l[j],List.getElem?_eq_getElem hjl⟩
   cases hd:isd c
   ·have hbad:=st_bad hst hc hd
    rw [show amtS m l=(v,p,e) from hres] at hbad
    have hbH:Hidden ((v,p,e)=(0,(j:Int),10)):=hbad
    clear hbad hst
    by_cases h128:128≤c.toNat
    ·obtain ⟨r,q,hr0,hr1,hnx⟩:=next_high w l j c hc h128
     clear hc hd h128
     go_wp2
     go_ret3
     exact ⟨ret3 (show (v,p,e)=(0,(j:Int),10) from hbH).symm,kb_iter _ _ _⟩
    ·have hnx:=next_digit w l j c hc (by omega)
     have hcc:=isd_no c hd
     clear hc hd
     generalize c.toNat=C at *
     rcases hcc with hcc | ⟨hcc,hcc2⟩
     all_goals
      go_wp2
      go_ret3
      exact ⟨ret3 (show (v,p,e)=(0,(j:Int),10) from hbH).symm,kb_iter _ _ _⟩
   ·obtain ⟨D,hD,hD9⟩:=isd_lt c hd
    have hnx:=next_digit w l j c hc (by omega)
    rw [hD] at hnx
    cases f
    ·have hst2:Hidden (St m l (j+1) acc false):=st_no hst hc hd
     clear hst hc hd hD
     go_wp2
     go_roundg (l.length - (j+1))
     case measure =>
      have:gk=l.length - j:=hgkH
      omega
     case rel=>exact ⟨j+1,acc,false,rfl,rfl,by omega,hst2,rfl,rfl⟩
    ·obtain ⟨ha,hy,hn⟩:=st_yes hst hc hd D hD
     clear hst hc hd hD
     by_cases hle:acc*10+D≤m
     ·have hst2:Hidden (St m l (j+1) (acc*10+D) true):=hy hle
      have kd:=ad_yes acc D m hm hD9 hle
      clear hy hn hle
      go_wp2_with (go_at_call 199;refine (kd _).mono ?_;rintro e w' ⟨rfl,rfl⟩)
      go_roundg (l.length - (j+1))
      case measure =>
       have:gk=l.length - j:=hgkH
       omega
      case rel=>exact ⟨j+1,acc*10+D,true,rfl,rfl,by omega,hst2,rfl,rfl⟩
     ·have hst2:Hidden (St m l (j+1) 0 false):=hn (by omega)
      have kd:=ad_no acc D m ha hm hD9 (by omega)
      clear hy hn hle
      go_wp2_with (go_at_call 199;refine (kd _).mono ?_;rintro e w' ⟨rfl,rfl⟩)
      go_roundg (l.length - (j+1))
      case measure =>
       have:gk=l.length - j:=hgkH
       omega
      case rel=>exact ⟨j+1,0,false,rfl,rfl,by omega,hst2,rfl,rfl⟩
  ·obtain rfl:j=l.length:=by omega
   obtain ⟨he1,he2,he3⟩:=st_end hst
   have hnil:l≠[]:=by rintro rfl;simp at hne
   have hnx:=next_end w l
   rw [show amtS m l=(v,p,e) from hres] at he2 he3
   rw [show l.head?=some c0 from hh0] at he2 he3
   clear he1 hst
   by_cases h1:1<l.length
   ·by_cases h48:c0=48
    ·have hbH:Hidden ((v,p,e)=(0,0,10)):=he2 h1 (by rw [h48])
     have hq:((c0.toNat:Int) == 48)=true:=by rw [h48];rfl
     clear he2 he3 h48
     generalize (c0.toNat:Int)=C0 at *
     go_wp2
     go_ret3
     exact ⟨ret3 (show (v,p,e)=(0,0,10) from hbH).symm,kb_iter _ _ _⟩
    ·have he4:=he3 hnil (fun h=>h48 (by simpa using h.2))
     have hq:((c0.toNat:Int) == 48)=false:=by
      simp only [beq_eq_false_iff_ne,ne_eq]
      intro h
      exact h48 (UInt8.toNat_inj.1 (by rw [show (48:UInt8).toNat=48 from rfl];omega))
     clear he2 he3 h48
     generalize (c0.toNat:Int)=C0 at *
     cases f
     ·have hbH:Hidden ((v,p,e)=(0,0,80)):=he4.2 rfl
      clear he4
      go_wp2
      go_ret3
      exact ⟨ret3 (show (v,p,e)=(0,0,80) from hbH).symm,kb_iter _ _ _⟩
     ·have hbH:Hidden ((v,p,e)=((acc:Int),0,0)):=he4.1 rfl
      clear he4
      go_wp2
      go_ret3
      exact ⟨ret3 (show (v,p,e)=((acc:Int),0,0) from hbH).symm,kb_iter _ _ _⟩
   ·have he4:=he3 hnil (fun h=>h1 h.1)
    clear he2 he3
    cases f
    ·have hbH:Hidden ((v,p,e)=(0,0,80)):=he4.2 rfl
     clear he4
     go_wp2
     go_ret3
     exact ⟨ret3 (show (v,p,e)=(0,0,80) from hbH).symm,kb_iter _ _ _⟩
    ·have hbH:Hidden ((v,p,e)=((acc:Int),0,0)):=he4.1 rfl
     clear he4
     go_wp2
     go_ret3
     exact ⟨ret3 (show (v,p,e)=((acc:Int),0,0) from hbH).symm,kb_iter _ _ _⟩
end Go.Proofs.YteijjaabngkbjaaGreatDoor.I
namespace Go.Proofs.YteijjaabngkbjaaGreatDoor.I
open Go.RowKit
theorem ra_empty (m:Int) (w:World) :
 Calls Tryz.prog 160 #[.string ⟨#[]⟩,.int .u64 m] w fun r w'=>r = .returned (.tuple #[.int .u64 0,.int .i64 0,.int .i64 10])∧Kb w w':=by
 have hnx:=next_end w []
 simp only [List.length_nil] at hnx
 go_enter Tryz.func160,Tryz.ntmps160
 go_wp2
 refine wp_loop_rounds 1 ?_
 rw [rounds_succ]
 go_wp2
 go_ret3
 exact ⟨rfl,kb_iter _ _ _⟩
theorem ra_any (l:List UInt8) (m:Nat) (v p e:Int) (hres:amtS m l=(v,p,e)) (hm:m≤9223372036854775808) (hl:l.length≤9223372036854775807) (w:World) :
 Calls Tryz.prog 160 #[.string ⟨l.toArray⟩,.int .u64 (m:Int)] w fun r w'=>r = .returned (.tuple #[.int .u64 v,.int .i64 p,.int .i64 e])∧Kb w w':=by
 cases l with
 | nil =>
   simp only [amtS,runD,List.length_nil,Nat.lt_irrefl,if_false,if_true,Prod.mk.injEq] at hres
   obtain ⟨rfl,rfl,rfl⟩:=hres
   exact ra_empty _ w
 | cons c r=>exact ra_walk (c::r) m v p e hres hm hl rfl w
theorem amt_bounds (m:Nat) (l:List UInt8) (v p e:Int) (h:amtS m l=(v,p,e)):0≤v∧v≤m∧0≤p∧p≤l.length:=by
 by_cases he:e=0
 ·subst he
  obtain ⟨h1,h2,h3,_⟩:=amt_ok m l v p h
  exact ⟨h2,h3,by omega,by omega⟩
 ·obtain ⟨h1,h2,h3⟩:=amt_err m l v p e h he
  exact ⟨by omega,by omega,h2,h3⟩
theorem nat_any (l:List UInt8) (v p e:Int) (hres:natS l=(v,p,e)) (hl:l.length≤9223372036854775807) (w:World) :
 Calls Tryz.prog 122 #[.string ⟨l.toArray⟩] w fun r w'=>r = .returned (.tuple #[.int .i64 v,.int .i64 p,.int .i64 e])∧Kb w w':=by
 have k:=ra_any l 9223372036854775807 v p e hres (by omega) hl
 have hb:=amt_bounds _ _ _ _ _ hres
 have h0:0≤v:=hb.1
 have h1:v≤9223372036854775807:=by omega
 have hw:wrap64 v=v:=wrap64_I ⟨by omega,h1⟩
 clear hres hb
 go_enter Tryz.func122,Tryz.ntmps122
 go_wp2_with (go_at_call 160;refine (k _).mono ?_;rintro e w' ⟨rfl,g⟩)
 go_ret3
 first | exact ⟨rfl,g⟩ | exact ⟨ret3 (by rw [hw]),g⟩
end Go.Proofs.YteijjaabngkbjaaGreatDoor.I
