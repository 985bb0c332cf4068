import Derived.Test.YtpedpbbiamhgdaaGreatDoorAtomK
import Derived.Test.YtpedpbbiamhgdaaGreatDoorLawK
import Derived.Test.YtpedpbbiamhgdaaGreatDoorMatoms
import Derived.Lib.QuietBelow
namespace Go.Proofs.YtpedpbbiamhgdaaGreatDoor
open Go.RowKit
set_option linter.unusedVariables false
def CsInts (w:World) (cs:List Value) (d:List Int):Prop:=∃a n c,cs=[.slice a n c]∧Ints w (.slice a n c) d
def COInts (w:World) (cs:List Value) (d:List Int) (bs:List Nat):Prop:=∃a n c,cs=[.slice a n c]∧OInts w (.slice a n c) d bs
theorem CsInts.below {w w':World} {cs:List Value} {d:List Int} (h:CsInts w cs d) (hb:Below w.heap.size w w'):CsInts w' cs d:=by
 obtain⟨a,n,c,rfl,h⟩:=h;exact⟨a,n,c,rfl,h.below hb⟩
theorem COInts.rd {w:World} {cs:List Value} {d:List Int} {bs:List Nat} (h:COInts w cs d bs):CsInts w cs d:=by
 obtain⟨a,n,c,rfl,h⟩:=h;exact⟨a,n,c,rfl,h.1⟩
def RdIntSS (w:World) (v:Value) (d:List (List Int)):Prop:=∃a n c,v=.slice a n c∧RdSl 1 CsInts w (.slice a n c) d
def ROIntSS (w:World) (v:Value) (d:List (List Int)) (bs:List Nat):Prop:=∃a n c,v=.slice a n c∧ROSl 1 COInts w (.slice a n c) d bs
theorem RdIntSS.below {w w':World} {v:Value} {d:List (List Int)} (h:RdIntSS w v d) (hb:Below w.heap.size w w'):RdIntSS w' v d:=by
 obtain⟨a,n,c,rfl,h⟩:=h;exact⟨a,n,c,rfl,RdSl.below h (fun _ _ h=>h.below hb) hb⟩
theorem ROIntSS.rd {w:World} {v:Value} {d:List (List Int)} {bs:List Nat} (h:ROIntSS w v d bs):RdIntSS w v d:=by
 obtain⟨a,n,c,rfl,h⟩:=h;exact⟨a,n,c,rfl,ROSl.rd h (fun _ _ _ h=>h.rd)⟩
theorem RdIntSS.nil (w:World):RdIntSS w (.slice none 0 0) []:=⟨none,0,0,rfl,none,0,0,rfl,rfl,Nat.le_refl _,Nat.zero_le _,fun h=>by omega⟩
theorem intsAt {w:World} {b off n:Nat} {l:List (List Int)} (hc:∀j d,l[j]?=some d→∃cs,cs.length=1∧(∀i,i<1→w.cell? ⟨b,off+(j*1+i),none⟩=cs[i]?)∧CsInts w cs d) (i:Nat) (d:List Int) (h:l[i]?=some d) :
  ∃a m c,w.cell? ⟨b,off+i,none⟩=some (.slice a m c)∧Ints w (.slice a m c) d:=by
 obtain⟨cs,h1,h2,a,m,c,rfl,h4⟩:=hc i d h;refine⟨a,m,c,?_,h4⟩;have:=h2 0 (by omega);simpa using this
def ElsI (w:World) (cs:List Value) (l:List (List Int)) (bss:List (List Nat)):Prop:=
 bss.length=l.length∧∀j d,l[j]?=some d→∃a n c,cs[j]?=some (.slice a n c)∧OInts w (.slice a n c) d (bss.getD j [])
theorem ElsI.grow {w w':World} {cs:List Value} {l:List (List Int)} {bss:List (List Nat)} (h:ElsI w cs l bss) (hb:Below w.heap.size w w'):ElsI w' cs l bss:=
 ⟨h.1,fun j d hd=>by obtain⟨a,n,c,e1,e4⟩:=h.2 j d hd;exact⟨a,n,c,e1,e4.below hb⟩⟩
theorem ElsI.onlyAt {w w':World} {cs:List Value} {l:List (List Int)} {bss:List (List Nat)} {bs':List Nat} (h:ElsI w cs l bss) (ko:OnlyAt bs' w w') (hn:∀b∈bss.flatten,b∉bs'):ElsI w' cs l bss:=
 ⟨h.1,fun j d hd=>by obtain⟨a,n,c,e1,e4⟩:=h.2 j d hd;exact⟨a,n,c,e1,e4.onlyAt ko (fun x hx=>hn x (getD_mem_flatten hx))⟩⟩
theorem ElsI.snoc {w:World} {cs cs':List Value} {l:List (List Int)} {bss:List (List Nat)} {a:Option Addr} {n c:Nat} {li:List Int} {bs:List Nat} (h:ElsI w cs l bss) (hc:∀j,j<l.length→cs'[j]?=cs[j]?) (hn:cs'[l.length]?=some (.slice a n c)) (ho:OInts w (.slice a n c) li bs):ElsI w cs' (l++[li]) (bss++[bs]):=by
 refine⟨by simp[h.1],fun j d hd=>?_⟩;rcases Nat.lt_or_ge j l.length with hj|hj
 ·rw[List.getElem?_append_left hj] at hd;obtain⟨a',n',c',e1,e4⟩:=h.2 j d hd
  have e5:(bss++[bs]).getD j []=bss.getD j []:=by
   rw[List.getD_eq_getElem?_getD,List.getD_eq_getElem?_getD,List.getElem?_append_left (by rw[h.1];exact hj)]
  exact⟨a',n',c',by rw[hc j hj];exact e1,by rw[e5];exact e4⟩
 ·have hj2:j=l.length:=by
   have:=(List.getElem?_eq_some_iff.1 hd).1;simp at this;omega
  subst hj2;have hd':d=li:=by simpa using hd.symm
  subst hd'
  have e5:(bss++[bs]).getD l.length []=bs:=by
   rw[List.getD_eq_getElem?_getD,List.getElem?_append_right (by rw[h.1];exact Nat.le_refl _),h.1];simp
  exact⟨a,n,c,hn,by rw[e5];exact ho⟩
theorem rowOfI {E:TypeId} {W w:World} {g n cap:Nat} {cs:List Value} {l:List (List Int)} {bss:List (List Nat)} (h1:BuiltC E 1 W w (.slice (some ⟨g,0,none⟩) n cap) n cs) (h2:ElsI w cs l bss) (hl:l.length≤n):RowO 1 COInts w g 0 l bss:=by
 have hlen:=h1.len;refine⟨h2.1,h1.lt.2,fun t ht=>by rw[Nat.zero_add];exact h1.frozen t,fun j d hd=>?_⟩;obtain⟨a,n,c,e1,e4⟩:=h2.2 j d hd;have hj:=(List.getElem?_eq_some_iff.1 hd).1;refine⟨[.slice a n c],rfl,fun e he=>?_,a,n,c,rfl,e4⟩;obtain rfl:e=0:=by omega
 rw[Nat.zero_add,Nat.mul_one,Nat.add_zero,h1.cell _ (by omega)];exact e1
theorem ownOfI {E:TypeId} {W w:World} {v:Value} {cs:List Value} {l:List (List Int)} {bss:List (List Nat)} (h1:BuiltC E 1 W w v l.length cs) (h2:ElsI w cs l bss) (hnd:(blk v++bss.flatten).Nodup) (hlo:∀b∈bss.flatten,W.heap.size≤b∧b<w.heap.size):∃bs,ROIntSS w v l bs∧Fresh W w bs:=by
 rcases h1.form with⟨rfl,h0⟩|⟨g,cap,rfl,h3,h4⟩
 ·have hl:l=[]:=List.eq_nil_of_length_eq_zero h0;subst hl;exact⟨[],⟨_,_,_,rfl,.inl ⟨_,_,rfl,Nat.zero_le _,rfl,rfl⟩⟩,⟨by simp,fun b hb=>by simp at hb⟩⟩
 ·by_cases h0:l.length=0
  ·have hl:l=[]:=List.eq_nil_of_length_eq_zero h0;subst hl;exact⟨[],⟨_,_,_,rfl,.inl ⟨_,_,rfl,h4,rfl,rfl⟩⟩,⟨by simp,fun b hb=>by simp at hb⟩⟩
  ·refine⟨g::bss.flatten,⟨_,_,_,rfl,.inr ⟨g,0,_,cap,bss,rfl,rfl,by omega,h3,h4,rfl,rowOfI h1 h2 (Nat.le_refl _)⟩⟩,⟨by simpa[blk] using hnd,fun b hb=>?_⟩⟩;rcases List.mem_cons.1 hb with rfl|hb
   ·exact h1.lt
   ·exact hlo b hb
def OutII (E:TypeId) (W w:World) (v:Value) (l:List (List Int)) (bss:List (List Nat)):Prop:=
 (∃cs,BuiltC E 1 W w v l.length cs∧ElsI w cs l bss)∧(blk v++bss.flatten).Nodup∧(∀b∈bss.flatten,W.heap.size≤b∧b<w.heap.size)
theorem OutII.below {E:TypeId} {W w:World} {v:Value} {l:List (List Int)} {bss:List (List Nat)} (h:OutII E W w v l bss):Below W.heap.size W w:=by
 obtain⟨⟨cs,h1,_⟩,_⟩:=h;exact h1.2
theorem OutII.grow {E:TypeId} {W w w':World} {v:Value} {l:List (List Int)} {bss:List (List Nat)} (h:OutII E W w v l bss) (hb:Below w.heap.size w w'):OutII E W w' v l bss:=by
 obtain⟨⟨cs,h1,h2⟩,h3,h4⟩:=h;exact⟨⟨cs,h1.grow hb,h2.grow hb⟩,h3,fun b hx=>⟨(h4 b hx).1,Nat.lt_of_lt_of_le (h4 b hx).2 hb.size⟩⟩
theorem OutII.lit (E:TypeId) (W w:World) (hb:Below W.heap.size W w):OutII E W (w.alloc (.cells #[] E)) (.slice (some ⟨w.heap.size,0,none⟩) 0 0) [] []:=
 ⟨⟨[],BuiltC.lit E 1 W w 0 [] (Nat.zero_le _) rfl hb,rfl,fun j d h=>by simp at h⟩,by simp[blk],fun b hb=>by simp at hb⟩
theorem OutII.step {E:TypeId} {W w w2 wa w3:World} {v v':Value} {l:List (List Int)} {cs:List Value} {bss:List (List Nat)} {a:Option Addr} {n c:Nat} {li:List Int} {bs:List Nat}
  (h:OutII E W w v l bss) (h1:BuiltC E 1 W w v l.length cs) (h2:ElsI w cs l bss) (hb2:Below w.heap.size w w2) (hba:Below w2.heap.size w2 wa) (ho:OInts w2 (.slice a n c) li bs) (hfr:Fresh w w2 bs)
  (h':BuiltC E 1 W w3 v' (l.length+1) (cs++[.slice a n c])) (ko:OnlyAt (blk v) wa w3) (hv':∀b∈blk v',b∈blk v∨wa.heap.size≤b) :
  OutII E W w3 v' (l++[li]) (bss++[bs]):=by
 obtain⟨_,h6,h7⟩:=h;have hwa:Below w.heap.size w wa:=bnext hb2 hba;have hs2:=hb2.size;have hsa:=hba.size;have hs3:=ko.size;have hW:=h1.2.size;have hlt:=blk_lt h1;have hlen:=h1.len;rw[List.nodup_append] at h6;obtain⟨n1,n2,n3⟩:=h6;have hbx:∀b∈bs,b∉blk v:=fun b hb hx=>by have:=hlt b hx;have:=hfr.lo b hb;omega
 have hn:∀b∈bss.flatten,b∉blk v:=fun b hb hx=>n3 b hx b hb rfl
 have e:(bss++[bs]).flatten=bss.flatten++bs:=by simp
 refine⟨⟨cs++[.slice a n c],by simpa using h',((h2.grow hwa).onlyAt ko hn).snoc (fun j hj=>List.getElem?_append_left (by omega)) (by rw[List.getElem?_append_right (by omega),hlen];simp) ((ho.below hba).onlyAt ko hbx)⟩,?_,?_⟩
 ·rw[e,List.nodup_append,List.nodup_append];refine⟨?_,⟨n2,hfr.1,fun x hx y hy e=>?_⟩,fun x hx y hy e=>?_⟩
  ·rcases h'.form with⟨rfl,_⟩|⟨g,cap,rfl,_,_⟩<;>simp[blk]
  ·have:=(h7 x hx).2;have:=hfr.lo y hy;omega
  ·subst e;rcases hv' x hx with hx|hx
   ·rcases List.mem_append.1 hy with hy|hy
    ·exact n3 x hx x hy rfl
    ·exact hbx x hy hx
   ·rcases List.mem_append.1 hy with hy|hy
    ·have:=(h7 x hy).2;omega
    ·have:=(hfr.2 x hy).2;omega
 ·intro b hb;rw[e] at hb;rcases List.mem_append.1 hb with hb|hb
  ·have:=h7 b hb;omega
  ·have:=hfr.2 b hb;omega
theorem OutII.done {E:TypeId} {W w:World} {v:Value} {l:List (List Int)} {bss:List (List Nat)} (h:OutII E W w v l bss):∃bs,ROIntSS w v l bs∧Fresh W w bs:=by
 obtain⟨⟨cs,h1,h2⟩,h3,h4⟩:=h;exact ownOfI h1 h2 h3 h4
end Go.Proofs.YtpedpbbiamhgdaaGreatDoor
namespace Go.Proofs.YtpedpbbiamhgdaaGreatDoor
open Go Go.Sort Go.RowKit
set_option linter.unusedVariables false
theorem info_IntSl:(Tryz.prog.info? 24).map (fun i=>(i.zero,i.size,i.bytes))=some (some (.slice none 0 0),1,24):=by kernel_rfl
theorem take_atI {l:List (List Int)} {i:Nat} {e:List Int} (h:l[i]?=some e):l.take (i+1)=l.take i++[e]:=by
 obtain⟨hi,rfl⟩:=List.getElem?_eq_some_iff.1 h;rw[List.take_succ_eq_append_getElem hi]
end Go.Proofs.YtpedpbbiamhgdaaGreatDoor
