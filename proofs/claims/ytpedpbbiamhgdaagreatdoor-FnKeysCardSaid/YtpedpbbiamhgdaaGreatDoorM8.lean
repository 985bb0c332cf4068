import Derived.Test.YtpedpbbiamhgdaaGreatDoorI5math
namespace Go.Proofs.YtpedpbbiamhgdaaGreatDoor
open Go Go.RowKit
set_option linter.unusedVariables false
def val8 (t:Int):Int:=if t<0 then -1-t else 80+t
def ter8 (v:Int):Int:=if 79<v then v-80 else -1-v
theorem ter8_hi {v:Int} (h:79<v):ter8 v=v-80:=if_pos h
theorem ter8_lo {v:Int} (h:v≤79):ter8 v=-1-v:=if_neg (by omega)
theorem val8_neg {t:Int} (h:t<0):val8 t=-1-t:=if_pos h
theorem val8_pos {t:Int} (h:0≤t):val8 t=80+t:=if_neg (by omega)
theorem term_in {t:Int} (h:termB t=true):-80≤t∧t≤19:=by
 unfold termB varB conB at h;rw[Bool.or_eq_true,decide_eq_true_eq,decide_eq_true_eq] at h;omega
theorem val8_of {t:Int} (h:termB t=true):0≤val8 t∧val8 t≤99∧ter8 (val8 t)=t:=by
 have:=term_in h;by_cases h0:t<0
 ·rw[val8_neg h0];exact⟨by omega,by omega,by rw[ter8_lo (by omega)];omega⟩
 ·rw[val8_pos (by omega)];exact⟨by omega,by omega,by rw[ter8_hi (by omega)];omega⟩
def fct8 (a:AtomD):AtomD:=(a.1,a.2.map val8)
def StrictF (l:List AtomD):Prop:=l.Pairwise (fun a b=>lessF a b=true)
theorem Asc.strict {l:List AtomD} (h:Asc l):StrictF l:=
 List.pairwise_iff_getElem.2 fun i j hi hj hij=>by
  have:=h i j hij hj;rw[getD_some (List.getElem?_eq_getElem hi),getD_some (List.getElem?_eq_getElem hj)] at this;exact this
theorem StrictF.asc {l:List AtomD} (h:StrictF l):Asc l:=fun i j hij hj=>by
 rw[getD_some (List.getElem?_eq_getElem (show i<l.length by omega)),getD_some (List.getElem?_eq_getElem hj)];exact List.pairwise_iff_getElem.1 h i j (by omega) hj hij
theorem putTo_at {l:List AtomD} {f:AtomD} {k:Nat} (p:Pos l f k) (hk:l[k]?=some f):∀i,k<i→i≤l.length→putTo l f i=(l.take i,true):=by
 intro i
 induction i with
 |zero=>intro h;omega
 |succ i ih=>
  intro hi hil;have hil2:i<l.length:=by omega
  rw[putTo_next (some_getD hil2)];have hg:l.getD i zF=l[i]:=by simp[List.getD,List.getElem?_eq_getElem hil2]
  rcases Nat.lt_or_ge k i with h1|h1
  ·rw[ih h1 (by omega)];unfold putStep;simp only[Bool.not_true,Bool.false_and,Bool.false_eq_true,if_false];rw[List.take_succ_eq_append_getElem hil2,hg]
  ·obtain rfl:k=i:=by omega
   rw[putTo_low p k (Nat.le_refl _)];unfold putStep;rw[p.2.2 k (Nat.le_refl _) hil2];simp only[Bool.not_false,Bool.and_true,if_true];rw[if_pos (getD_some hk),List.take_succ_eq_append_getElem hil2,hg]
theorem putF_there {l:List AtomD} {f:AtomD} (h:Asc l) (hf:f∈l):putF l f=l:=by
 obtain⟨k,p⟩:=pos_of h f;have hk:=(pos_mem h p).1 hf;have hkl:=(List.getElem?_eq_some_iff.1 hk).1;unfold putF;rw[putTo_at p hk l.length hkl (Nat.le_refl _)];simp
theorem putF_in {l:List AtomD} {f:AtomD} (h:Asc l) (x:AtomD):x∈putF l f↔x=f∨x∈l:=by
 by_cases hf:f∈l
 ·rw[putF_there h hf];exact⟨.inr,fun hx=>hx.elim (fun e=>e ▸ hf) id⟩
 ·obtain⟨k,p⟩:=pos_of h f;rw[putF_pos p hf]
  conv=>rhs;rw[←List.take_append_drop k l]
  simp only[List.mem_append,List.mem_cons];constructor
  ·rintro (h1|h1|h1)
   ·exact .inr (.inl h1)
   ·exact .inl h1
   ·exact .inr (.inr h1)
  ·rintro (h1|h1|h1)
   ·exact .inr (.inl h1)
   ·exact .inl h1
   ·exact .inr (.inr h1)
theorem putF_asc {l:List AtomD} {f:AtomD} (h:Asc l):Asc (putF l f):=by
 by_cases hf:f∈l
 ·rw[putF_there h hf];exact h
 ·obtain⟨k,p⟩:=pos_of h f;rw[putF_pos p hf];have hs:=h.strict;rw[←List.take_append_drop k l] at hs;obtain⟨s1,s2,s3⟩:=List.pairwise_append.1 hs
  have hlo:∀a∈l.take k,lessF a f=true:=fun a ha=>by
   obtain⟨j,hj⟩:=List.mem_iff_getElem?.1 ha;have hjl:=(List.getElem?_eq_some_iff.1 hj).1;simp at hjl;rw[List.getElem?_take_of_lt (by omega)] at hj;rw[←getD_some hj];exact p.2.1 j (by omega)
  have hhi:∀b∈l.drop k,lessF f b=true:=fun b hb=>by
   obtain⟨j,hj⟩:=List.mem_iff_getElem?.1 hb;have hjl:=(List.getElem?_eq_some_iff.1 hj).1;simp at hjl;rw[List.getElem?_drop] at hj;have h1:=p.2.2 (k+j) (by omega) (by omega);rw[getD_some hj] at h1
   cases h2:lessF f b
   ·exact absurd (lessF_tri h1 h2) (fun e=>hf (by rw[←e];exact List.mem_of_getElem? hj))
   ·rfl
  exact StrictF.asc (List.pairwise_append.2 ⟨s1,List.pairwise_cons.2 ⟨hhi,s2⟩,fun a ha b hb=>by
   rcases List.mem_cons.1 hb with rfl|hb
   ·exact hlo a ha
   ·exact s3 a ha b hb⟩)
def frzTo (l:List AtomD) (i:Nat):List AtomD:=(l.take i).foldl (fun db a=>putF db (fct8 a)) []
theorem frzTo_next {l:List AtomD} {i:Nat} {a:AtomD} (h:l[i]?=some a):frzTo l (i+1)=putF (frzTo l i) (fct8 a):=by
 obtain⟨hi,rfl⟩:=List.getElem?_eq_some_iff.1 h;unfold frzTo;rw[List.take_succ_eq_append_getElem hi,List.foldl_append];rfl
theorem frzTo_ok (l:List AtomD):∀i,i≤l.length→Asc (frzTo l i)∧(∀x,x∈frzTo l i↔∃a∈l.take i,fct8 a=x)∧(frzTo l i).length≤i
 |0,_=>⟨fun i j _ hj=>absurd hj (by unfold frzTo;simp),fun x=>by unfold frzTo;simp,by unfold frzTo;simp⟩
 |i+1,hi=>by
  obtain⟨h1,h2,h3⟩:=frzTo_ok l i (by omega);have hil:i<l.length:=by omega
  rw[frzTo_next (List.getElem?_eq_getElem hil)];refine⟨putF_asc h1,fun x=>?_,Nat.le_trans (putF_len _ _) (by omega)⟩;rw[putF_in h1,h2 x,List.take_succ_eq_append_getElem hil];constructor
  ·rintro (rfl|⟨a,ha,e⟩)
   ·exact⟨_,List.mem_append.2 (.inr (List.mem_singleton.2 rfl)),rfl⟩
   ·exact⟨a,List.mem_append.2 (.inl ha),e⟩
  ·rintro⟨a,ha,e⟩;rcases List.mem_append.1 ha with ha|ha
   ·exact .inr ⟨a,ha,e⟩
   ·rw[List.mem_singleton.1 ha] at e;exact .inl e.symm
def frzOk (d:QueryD):Bool:=termsB d.1&&(decide (d.2.length≤8)&&d.2.all (fun a=>termsB a.2))
def frzDb (d:QueryD):List AtomD:=if frzOk d then frzTo d.2 d.2.length else []
def frzHd (d:QueryD):List Int:=if frzOk d then d.1.map val8 else []
theorem frzDb_no {d:QueryD} (h:frzOk d=false):frzDb d=[]:=by unfold frzDb;rw[h];rfl
theorem frzDb_yes {d:QueryD} (h:frzOk d=true):frzDb d=frzTo d.2 d.2.length:=by unfold frzDb;rw[if_pos h]
theorem frzHd_yes {d:QueryD} (h:frzOk d=true):frzHd d=d.1.map val8:=by unfold frzHd;rw[if_pos h]
theorem frz_yes {d:QueryD} (h1:termsB d.1=true) (h2:d.2.length≤8) (h3:∀(i:Nat) a,d.2[i]?=some a→termsB a.2=true):frzOk d=true:=by
 unfold frzOk;rw[h1,decide_eq_true h2,Bool.true_and,Bool.true_and,List.all_eq_true];intro a ha;obtain⟨i,hi⟩:=List.mem_iff_getElem?.1 ha;exact h3 i a hi
theorem frz_parts {d:QueryD} (h:frzOk d=true):termsB d.1=true∧d.2.length≤8∧∀a∈d.2,termsB a.2=true:=by
 unfold frzOk at h;rw[Bool.and_eq_true,Bool.and_eq_true,decide_eq_true_eq,List.all_eq_true] at h;exact⟨h.1,h.2.1,h.2.2⟩
theorem terms_all {l:List Int} (h:termsB l=true):l.all termB=true:=by
 unfold termsB at h;rw[Bool.and_eq_true] at h;exact h.1
theorem frzDb_8 (d:QueryD):(frzDb d).length≤8:=by
 cases h:frzOk d
 ·rw[frzDb_no h];simp
 ·rw[frzDb_yes h];exact Nat.le_trans (frzTo_ok d.2 d.2.length (Nat.le_refl _)).2.2 (frz_parts h).2.1
end Go.Proofs.YtpedpbbiamhgdaaGreatDoor
