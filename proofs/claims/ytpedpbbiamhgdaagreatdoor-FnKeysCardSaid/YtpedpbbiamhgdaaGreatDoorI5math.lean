import Derived.Test.YtpedpbbiamhgdaaGreatDoorS5all
namespace Go.Proofs.YtpedpbbiamhgdaaGreatDoor
open Go.RowKit
set_option linter.unusedVariables false
theorem lessB_trans:∀a b c:List Int,lessB a b=true→lessB b c=true→lessB a c=true
 |[],_,[],h1,h2=>by cases h3:(‹List Int› : List Int)<;>simp_all [lessB]
 |[],_,_::_,_,_=>by simp[lessB]
 |_::_,[],_,h1,_=>by simp[lessB] at h1
 |_::_,_::_,[],_,h2=>by simp[lessB] at h2
 |x::a,y::b,z::c,h1,h2=>by
  have ih:=lessB_trans a b c;unfold lessB at h1 h2 ⊢;by_cases e1:x=y
  ·subst e1;rw[if_pos rfl] at h1;by_cases e2:x=z
   ·subst e2;rw[if_pos rfl] at h2 ⊢;exact ih h1 h2
   ·rw[if_neg e2] at h2 ⊢;exact h2
  ·rw[if_neg e1] at h1;have h1:=of_decide_eq_true h1;by_cases e2:y=z
   ·subst e2;rw[if_neg e1];exact decide_eq_true h1
   ·rw[if_neg e2] at h2;have h2:=of_decide_eq_true h2;rw[if_neg (by omega)];exact decide_eq_true (by omega)
theorem lessB_tri:∀a b:List Int,lessB a b=false→lessB b a=false→a=b
 |[],[],_,_=>rfl
 |[],_::_,h1,_=>by simp[lessB] at h1
 |_::_,[],_,h2=>by simp[lessB] at h2
 |x::a,y::b,h1,h2=>by
  have ih:=lessB_tri a b;unfold lessB at h1 h2;by_cases e1:x=y
  ·subst e1;rw[if_pos rfl] at h1 h2;rw[ih h1 h2]
  ·rw[if_neg e1] at h1;rw[if_neg (Ne.symm e1)] at h2;have h1:=of_decide_eq_false h1;have h2:=of_decide_eq_false h2;omega
theorem lessF_trans {a b c:AtomD} (h1:lessF a b=true) (h2:lessF b c=true):lessF a c=true:=by
 unfold lessF lessAtomB at *;by_cases e1:a.1=b.1
 ·rw[if_pos e1] at h1;by_cases e2:b.1=c.1
  ·rw[if_pos e2] at h2;rw[if_pos (e1.trans e2)];exact lessB_trans _ _ _ h1 h2
  ·rw[if_neg e2] at h2;rw[if_neg (by rw[e1];exact e2),e1];exact h2
 ·rw[if_neg e1] at h1;have h1:=of_decide_eq_true h1;by_cases e2:b.1=c.1
  ·rw[if_neg (by rw[←e2];exact e1)];exact decide_eq_true (by omega)
  ·rw[if_neg e2] at h2;have h2:=of_decide_eq_true h2;rw[if_neg (by omega)];exact decide_eq_true (by omega)
theorem lessF_tri {a b:AtomD} (h1:lessF a b=false) (h2:lessF b a=false):a=b:=by
 unfold lessF lessAtomB at *;by_cases e1:a.1=b.1
 ·rw[if_pos e1] at h1;rw[if_pos e1.symm] at h2;exact Prod.ext e1 (lessB_tri _ _ h1 h2)
 ·rw[if_neg e1] at h1;rw[if_neg (Ne.symm e1)] at h2;have h1:=of_decide_eq_false h1;have h2:=of_decide_eq_false h2;omega
theorem lessF_irr (a:AtomD):lessF a a=false:=by
 have:∀l:List Int,lessB l l=false:=by
  intro l
  induction l with
  |nil=>rfl
  |cons x l ih=>unfold lessB;rw[if_pos rfl];exact ih
 unfold lessF lessAtomB;rw[if_pos rfl,this]
def Asc (l:List AtomD):Prop:=∀i j,i<j→j<l.length→lessF (l.getD i zF) (l.getD j zF)=true
def Pos (l:List AtomD) (f:AtomD) (k:Nat):Prop:=k≤l.length∧(∀j,j<k→lessF (l.getD j zF) f=true)∧∀j,k≤j→j<l.length→lessF (l.getD j zF) f=false
theorem pos_of {l:List AtomD} (h:Asc l) (f:AtomD):∃k,Pos l f k:=by
 have key:∀m,m≤l.length→∃k,k≤m∧(∀j,j<k→lessF (l.getD j zF) f=true)∧∀j,k≤j→j<m→lessF (l.getD j zF) f=false:=by
  intro m
  induction m with
  |zero=>intro _;exact⟨0,Nat.le_refl _,fun j hj=>by omega,fun j _ hj=>by omega⟩
  |succ m ih=>
   intro hm;obtain⟨k,h1,h2,h3⟩:=ih (by omega)
   cases hl:lessF (l.getD m zF) f with
   |true=>
    refine⟨m+1,Nat.le_refl _,fun j hj=>?_,fun j h4 h5=>by omega⟩;rcases Nat.lt_or_ge j m with h4|h4
    ·exact lessF_trans (h j m h4 (by omega)) hl
    ·obtain rfl:j=m:=by omega
     exact hl
   |false=>
    refine⟨k,by omega,h2,fun j h4 h5=>?_⟩;rcases Nat.lt_or_ge j m with h6|h6
    ·exact h3 j h4 h6
    ·obtain rfl:j=m:=by omega
     exact hl
 exact key l.length (Nat.le_refl _)
theorem getD_some {l:List AtomD} {j:Nat} {x:AtomD} (h:l[j]?=some x):l.getD j zF=x:=by rw[List.getD_eq_getElem?_getD,h];rfl
theorem some_getD {l:List AtomD} {j:Nat} (h:j<l.length):l[j]?=some (l.getD j zF):=by rw[List.getD_eq_getElem?_getD,List.getElem?_eq_getElem h];rfl
theorem pos_mem {l:List AtomD} {f:AtomD} {k:Nat} (h:Asc l) (p:Pos l f k):f∈l↔l[k]?=some f:=by
 constructor
 ·intro hm;obtain⟨j,hj⟩:=List.mem_iff_getElem?.1 hm;have hjl:=(List.getElem?_eq_some_iff.1 hj).1;have hg:=getD_some hj;rcases Nat.lt_trichotomy j k with h1|h1|h1
  ·have:=p.2.1 j h1;rw[hg,lessF_irr] at this;cases this
  ·rw[←h1];exact hj
  ·have h2:=h k j h1 hjl;rw[hg] at h2;have h3:=p.2.2 k (Nat.le_refl _) (by omega);rw[h2] at h3;cases h3
 ·intro h;exact List.mem_of_getElem? h
theorem putTo_low {l:List AtomD} {f:AtomD} {k:Nat} (p:Pos l f k):∀i,i≤k→putTo l f i=(l.take i,false):=by
 intro i
 induction i with
 |zero=>intro _;rfl
 |succ i ih=>
  intro hi;have hil:i<l.length:=by have:=p.1;omega
  rw[putTo_next (some_getD hil),ih (by omega)];unfold putStep;rw[p.2.1 i (by omega)];simp only[Bool.not_true,Bool.and_false,Bool.false_eq_true,if_false];rw[List.take_succ_eq_append_getElem hil];simp[List.getD,List.getElem?_eq_getElem hil]
theorem putTo_high {l:List AtomD} {f:AtomD} {k:Nat} (p:Pos l f k) (hf:f∉l):∀i,k<i→i≤l.length→putTo l f i=(l.take k++f::(l.take i).drop k,true):=by
 intro i
 induction i with
 |zero=>intro h;omega
 |succ i ih=>
  intro hi hil;have hil2:i<l.length:=by omega
  rw[putTo_next (some_getD hil2)];have hg:l.getD i zF=l[i]:=by simp[List.getD,List.getElem?_eq_getElem hil2]
  rcases Nat.lt_or_ge k i with h1|h1
  ·rw[ih h1 (by omega)];unfold putStep;simp only[Bool.not_true,Bool.false_and,Bool.false_eq_true,if_false];rw[List.take_succ_eq_append_getElem hil2,List.drop_append_of_le_length (by simp;omega),hg];simp
  ·obtain rfl:k=i:=by omega
   rw[putTo_low p k (Nat.le_refl _)];unfold putStep;rw[p.2.2 k (Nat.le_refl _) hil2];simp only[Bool.not_false,Bool.and_true,if_true];rw[if_neg (fun e=>hf (by rw[←e,hg];exact List.getElem_mem _)),List.take_succ_eq_append_getElem hil2,hg];rw[List.drop_append_of_le_length (by simp;omega)];have:(l.take k).drop k=[]:=by rw[List.drop_eq_nil_iff];simp;omega
   rw[this];simp
theorem putF_pos {l:List AtomD} {f:AtomD} {k:Nat} (p:Pos l f k) (hf:f∉l):putF l f=l.take k++f::l.drop k:=by
 unfold putF;rcases Nat.lt_or_ge k l.length with h|h
 ·rw[putTo_high p hf l.length h (Nat.le_refl _)];simp
 ·have hk:k=l.length:=by have:=p.1;omega
  rw[putTo_low p l.length (by omega)];subst hk;simp
end Go.Proofs.YtpedpbbiamhgdaaGreatDoor
