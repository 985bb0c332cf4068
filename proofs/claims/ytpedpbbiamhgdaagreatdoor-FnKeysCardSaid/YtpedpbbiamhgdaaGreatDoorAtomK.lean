import Derived.Test.YtpedpbbiamhgdaaGreatDoorBase
import Derived.Test.YtpedpbbiamhgdaaGreatDoorLawK
import Derived.Lib.QuietBelow
namespace Go.Proofs.YtpedpbbiamhgdaaGreatDoor
open Go Go.Sort Go.RowKit
set_option linter.unusedVariables false
abbrev AtomD:=Int × List Int
def CsAtom (w:World) (cs:List Value) (d:AtomD):Prop:=∃a n c,cs=[.int .i64 d.1,.slice a n c]∧inI d.1∧Ints w (.slice a n c) d.2
def COAtom (w:World) (cs:List Value) (d:AtomD) (bs:List Nat):Prop:=∃a n c,cs=[.int .i64 d.1,.slice a n c]∧inI d.1∧OInts w (.slice a n c) d.2 bs
theorem CsAtom.below {w w':World} {cs:List Value} {d:AtomD} (h:CsAtom w cs d) (hb:Below w.heap.size w w'):CsAtom w' cs d:=by
 obtain⟨a,n,c,rfl,hi,h⟩:=h;exact⟨a,n,c,rfl,hi,h.below hb⟩
theorem COAtom.below {w w':World} {cs:List Value} {d:AtomD} {bs:List Nat} (h:COAtom w cs d bs) (hb:Below w.heap.size w w'):COAtom w' cs d bs:=by
 obtain⟨a,n,c,rfl,hi,h⟩:=h;exact⟨a,n,c,rfl,hi,h.below hb⟩
theorem COAtom.onlyAt {w w':World} {cs:List Value} {d:AtomD} {bs bs':List Nat} (hn:∀b∈bs,b∉bs') (ko:OnlyAt bs' w w') (h:COAtom w cs d bs):COAtom w' cs d bs:=by
 obtain⟨a,n,c,rfl,hi,h⟩:=h;exact⟨a,n,c,rfl,hi,h.onlyAt ko hn⟩
theorem COAtom.rd {w:World} {cs:List Value} {d:AtomD} {bs:List Nat} (h:COAtom w cs d bs):CsAtom w cs d:=by
 obtain⟨a,n,c,rfl,hi,h⟩:=h;exact⟨a,n,c,rfl,hi,h.1⟩
def RdAtomS (w:World) (v:Value) (d:List AtomD):Prop:=∃a n c,v=.slice a n c∧RdSl 2 CsAtom w (.slice a n c) d
def ROAtomS (w:World) (v:Value) (d:List AtomD) (bs:List Nat):Prop:=∃a n c,v=.slice a n c∧ROSl 2 COAtom w (.slice a n c) d bs
theorem RdAtomS.below {w w':World} {v:Value} {d:List AtomD} (h:RdAtomS w v d) (hb:Below w.heap.size w w'):RdAtomS w' v d:=by
 obtain⟨a,n,c,rfl,h⟩:=h;exact⟨a,n,c,rfl,RdSl.below h (fun _ _ h=>h.below hb) hb⟩
theorem ROAtomS.onlyAt {w w':World} {v:Value} {d:List AtomD} {bs bs':List Nat} (h:ROAtomS w v d bs) (ko:OnlyAt bs' w w') (hn:∀b∈bs,b∉bs'):ROAtomS w' v d bs:=by
 obtain⟨a,n,c,rfl,h⟩:=h;exact⟨a,n,c,rfl,ROSl.onlyAt h ko hn (fun _ _ _ hn h=>h.onlyAt hn ko)⟩
theorem ROAtomS.rd {w:World} {v:Value} {d:List AtomD} {bs:List Nat} (h:ROAtomS w v d bs):RdAtomS w v d:=by
 obtain⟨a,n,c,rfl,h⟩:=h;exact⟨a,n,c,rfl,ROSl.rd h (fun _ _ _ h=>h.rd)⟩
def sumArgs (l:List AtomD):Nat:=(l.map (fun d=>d.2.length)).sum
def sizeAtomS (l:List AtomD):Nat:=l.length+sumArgs l
theorem sumArgs_take {l:List AtomD} {i:Nat} {d:AtomD} (h:l[i]?=some d):sumArgs (l.take (i+1))=sumArgs (l.take i)+d.2.length:=by
 obtain⟨hi,rfl⟩:=List.getElem?_eq_some_iff.1 h;unfold sumArgs;rw[List.take_succ_eq_append_getElem hi,List.map_append,List.sum_append];simp
theorem sumArgs_le (l:List AtomD) (i:Nat):sumArgs (l.take i)≤sumArgs l:=by
 induction l generalizing i with
 |nil=>simp[sumArgs]
 |cons a l ih=>
  cases i with
  |zero=>simp[sumArgs]
  |succ i=>have:=ih i;simp only[sumArgs,List.take_succ_cons,List.map_cons,List.sum_cons] at this ⊢;omega
theorem atomAt {w:World} {b off n:Nat} {l:List AtomD} (hc:∀j d,l[j]?=some d→∃cs,cs.length=2∧(∀i,i<2→w.cell? ⟨b,off+(j*2+i),none⟩=cs[i]?)∧CsAtom w cs d) (i:Nat) (d:AtomD) (h:l[i]?=some d) :
  ∃a m c,w.cell? ⟨b,off+i*2,none⟩=some (.int .i64 d.1)∧w.cell? ⟨b,off+i*2+1,none⟩=some (.slice a m c)∧inI d.1∧Ints w (.slice a m c) d.2:=by
 obtain⟨cs,h1,h2,a,m,c,rfl,h3,h4⟩:=hc i d h;refine⟨a,m,c,?_,?_,h3,h4⟩
 ·have:=h2 0 (by omega);simpa using this
 ·have:=h2 1 (by omega);rw[←Nat.add_assoc] at this;simpa using this
theorem getElem_eq_of {l l':List AtomD} (h:l.length=l'.length) (hj:∀(j:Nat) (d d':AtomD),l[j]?=some d→l'[j]?=some d'→d=d'):l=l':=by
 refine List.ext_getElem h fun j h1 h2=>?_
 exact hj j _ _ (List.getElem?_eq_getElem h1) (List.getElem?_eq_getElem h2)
theorem info_Atom:(Tryz.prog.info? 83).map (fun i=>(i.zero,i.size,i.bytes))=some (some (.agg #[.int .i64 0,.slice none 0 0]),2,32):=by kernel_rfl
end Go.Proofs.YtpedpbbiamhgdaaGreatDoor
namespace Go.Proofs.YtpedpbbiamhgdaaGreatDoor
open Go.RowKit
set_option linter.unusedVariables false
def Els (w:World) (cs:List Value) (l:List AtomD) (bss:List (List Nat)):Prop:=
 bss.length=l.length∧∀j d,l[j]?=some d→∃a n c,cs[j*2]?=some (.int .i64 d.1)∧cs[j*2+1]?=some (.slice a n c)∧inI d.1∧OInts w (.slice a n c) d.2 (bss.getD j [])
def BuiltA (E:TypeId) (W w:World) (v:Value) (l:List AtomD) (bss:List (List Nat)):Prop:=∃cs,BuiltC E 2 W w v l.length cs∧Els w cs l bss
theorem BuiltA.nil (E:TypeId) (W w:World) (hb:Below W.heap.size W w):BuiltA E W w (.slice none 0 0) [] []:=
 ⟨[],BuiltC.nil E 2 W w hb,rfl,fun j d h=>by simp at h⟩
theorem BuiltA.below {E:TypeId} {W w:World} {v:Value} {l:List AtomD} {bss:List (List Nat)} (h:BuiltA E W w v l bss):Below W.heap.size W w:=by
 obtain⟨cs,h1,_⟩:=h;exact h1.2
theorem BuiltA.grow {E:TypeId} {W w w':World} {v:Value} {l:List AtomD} {bss:List (List Nat)} (h:BuiltA E W w v l bss) (hb:Below w.heap.size w w'):BuiltA E W w' v l bss:=by
 obtain⟨cs,h1,h2,h3⟩:=h;refine⟨cs,h1.grow hb,h2,fun j d hd=>?_⟩;obtain⟨a,n,c,e1,e2,e3,e4⟩:=h3 j d hd;exact⟨a,n,c,e1,e2,e3,e4.below hb⟩
theorem BuiltA.onlyAt {E:TypeId} {W w w':World} {v:Value} {l:List AtomD} {bss:List (List Nat)} {bs':List Nat} (h:BuiltA E W w v l bss) (ko:OnlyAt bs' w w') (hW:∀x∈bs',W.heap.size≤x) (hv:∀b∈blk v,b∉bs') (hn:∀b∈bss.flatten,b∉bs'):BuiltA E W w' v l bss:=by
 obtain⟨cs,h1,h2,h3⟩:=h;refine⟨cs,⟨⟨h1.1.1,?_⟩,OnlyAt.below h1.2 ko hW⟩,h2,fun j d hd=>?_⟩
 ·rcases h1.1.2 with h4|⟨g,cap,cur,rfl,h4,hg,h5⟩
  ·exact .inl h4
  ·have hlt:g<w.heap.size:=by
    rcases Nat.lt_or_ge g w.heap.size with h6|h6
    ·exact h6
    ·rw[Array.getElem?_eq_none h6] at hg;cases hg
   exact .inr ⟨g,cap,cur,rfl,h4,by rw[ko.block g hlt (hv g (by simp[blk]))];exact hg,h5⟩
 ·obtain⟨a,n,c,e1,e2,e3,e4⟩:=h3 j d hd;exact⟨a,n,c,e1,e2,e3,e4.onlyAt ko (fun x hx=>hn x (getD_mem_flatten hx))⟩
theorem BuiltA.app {E:TypeId} {W w w':World} {v v':Value} {l:List AtomD} {bss:List (List Nat)} {cs:List Value} {r:Int} {a:Option Addr} {n c:Nat} {li:List Int} {bs:List Nat}
  (hc:BuiltC E 2 W w v l.length cs) (he:Els w cs l bss) (h':BuiltC E 2 W w' v' (l.length+1) (cs++[.int .i64 r,.slice a n c])) (ko:OnlyAt (blk v) w w')
  (hn:∀b∈bss.flatten,b∉blk v) (hr:inI r) (ho:OInts w (.slice a n c) li bs) (hb:∀b∈bs,b∉blk v):BuiltA E W w' v' (l++[(r,li)]) (bss++[bs]):=by
 have hlen:=hc.len;refine⟨cs++[.int .i64 r,.slice a n c],by simpa using h',by simp[he.1],fun j d hd=>?_⟩;rcases Nat.lt_or_ge j l.length with hj|hj
 ·rw[List.getElem?_append_left hj] at hd;obtain⟨a',n',c',e1,e2,e3,e4⟩:=he.2 j d hd;refine⟨a',n',c',by rw[List.getElem?_append_left (by omega)];exact e1,by rw[List.getElem?_append_left (by omega)];exact e2,e3,?_⟩
  have e5:(bss++[bs]).getD j []=bss.getD j []:=by
   rw[List.getD_eq_getElem?_getD,List.getD_eq_getElem?_getD,List.getElem?_append_left (by rw[he.1];exact hj)]
  rw[e5];exact e4.onlyAt ko (fun x hx=>hn x (getD_mem_flatten hx))
 ·have hj2:j=l.length:=by
   have:=(List.getElem?_eq_some_iff.1 hd).1;simp at this;omega
  subst hj2;have hd':d=(r,li):=by simpa using hd.symm
  subst hd';refine⟨a,n,c,?_,?_,hr,?_⟩
  ·rw[List.getElem?_append_right (by omega),hlen];simp
  ·rw[List.getElem?_append_right (by omega),hlen,show l.length*2+1-l.length*2=1 from by omega];rfl
  ·have e5:(bss++[bs]).getD l.length []=bs:=by
    rw[List.getD_eq_getElem?_getD,List.getElem?_append_right (by rw[he.1];exact Nat.le_refl _),he.1];simp
   rw[e5];exact ho.onlyAt ko hb
theorem BuiltA.cells {E:TypeId} {W w:World} {v:Value} {l:List AtomD} {bss:List (List Nat)} (h:BuiltA E W w v l bss):(l=[]∧v=.slice none 0 0)∨∃g cap,v=.slice (some ⟨g,0,none⟩) l.length cap∧l.length≤cap∧cap≤maxLen∧W.heap.size≤g∧RowO 2 COAtom w g 0 l bss:=by
 obtain⟨cs,h1,h2,h3⟩:=h;rcases h1.form with⟨rfl,h4⟩|⟨g,cap,rfl,h4,h5⟩
 ·exact .inl ⟨List.eq_nil_of_length_eq_zero h4,rfl⟩
 ·refine .inr ⟨g,cap,rfl,h4,h5,h1.lt.1,h2,h1.lt.2,fun t ht=>by rw[Nat.zero_add];exact h1.frozen t,fun j d hd=>?_⟩;obtain⟨a,n,c,e1,e2,e3,e4⟩:=h3 j d hd;have hj:=(List.getElem?_eq_some_iff.1 hd).1;refine⟨[.int .i64 d.1,.slice a n c],rfl,fun e he=>?_,a,n,c,rfl,e3,e4⟩;rw[Nat.zero_add,h1.cell _ (by omega)];have:e=0∨e=1:=by omega
  rcases this with rfl|rfl
  ·exact e1
  ·exact e2
theorem BuiltA.owns {E:TypeId} {W w:World} {v:Value} {l:List AtomD} {bss:List (List Nat)} (h:BuiltA E W w v l bss) (hnd:(blk v++bss.flatten).Nodup) (hlo:∀b∈bss.flatten,W.heap.size≤b∧b<w.heap.size):∃bs,ROAtomS w v l bs∧Fresh W w bs∧∀b∈bs,b∈blk v∨b∈bss.flatten:=by
 rcases h.cells with⟨rfl,rfl⟩|⟨g,cap,rfl,h1,h2,h3,h4⟩
 ·exact⟨[],⟨_,_,_,rfl,.inl ⟨_,_,rfl,Nat.zero_le _,rfl,rfl⟩⟩,⟨by simp,fun b hb=>by simp at hb⟩,fun b hb=>by simp at hb⟩
 ·by_cases h0:l.length=0
  ·have hl:l=[]:=List.eq_nil_of_length_eq_zero h0;subst hl;exact⟨[],⟨_,_,_,rfl,.inl ⟨_,_,rfl,h2,rfl,rfl⟩⟩,⟨by simp,fun b hb=>by simp at hb⟩,fun b hb=>by simp at hb⟩
  ·refine⟨g::bss.flatten,⟨_,_,_,rfl,.inr ⟨g,0,_,cap,bss,rfl,rfl,by omega,h1,h2,rfl,h4⟩⟩,⟨by simpa[blk] using hnd,fun b hb=>?_⟩,fun b hb=>by simpa[blk] using hb⟩;rcases List.mem_cons.1 hb with rfl|hb
   ·exact⟨h3,h4.2.1⟩
   ·exact hlo b hb
theorem BuiltA.ro {E:TypeId} {W w:World} {v:Value} {l:List AtomD} {bss:List (List Nat)} (h:BuiltA E W w v l bss):∃bs,ROAtomS w v l bs∧∀b∈bs,b∈blk v∨b∈bss.flatten:=by
 rcases h.cells with⟨rfl,rfl⟩|⟨g,cap,rfl,h1,h2,h3,h4⟩
 ·exact⟨[],⟨_,_,_,rfl,.inl ⟨_,_,rfl,Nat.zero_le _,rfl,rfl⟩⟩,fun b hb=>by simp at hb⟩
 ·by_cases h0:l.length=0
  ·have hl:l=[]:=List.eq_nil_of_length_eq_zero h0;subst hl;exact⟨[],⟨_,_,_,rfl,.inl ⟨_,_,rfl,h2,rfl,rfl⟩⟩,fun b hb=>by simp at hb⟩
  ·exact⟨g::bss.flatten,⟨_,_,_,rfl,.inr ⟨g,0,_,cap,bss,rfl,rfl,by omega,h1,h2,rfl,h4⟩⟩,fun b hb=>by simpa[blk] using hb⟩
theorem OnlyAt.frozen {bs:List Nat} {w w':World} (h:OnlyAt bs w w') {b o:Nat} (hlt:b<w.heap.size) (hn:b∉bs) (hf:w.frozen? ⟨b,o,none⟩=false):w'.frozen? ⟨b,o,none⟩=false:=by
 have e:w'.heap[b]?=w.heap[b]?:=h.block b hlt hn;unfold World.frozen? at hf ⊢;simp only[e];exact hf
theorem blk_lt {E:TypeId} {size n:Nat} {W w:World} {v:Value} {cs:List Value} (h:BuiltC E size W w v n cs):∀b∈blk v,b<w.heap.size:=by
 intro b hb;rcases h.form with⟨rfl,_⟩|⟨g,cap,rfl,_,_⟩
 ·simp[blk] at hb
 ·simp[blk] at hb;subst hb;exact h.lt.2
theorem Els.grow {w w':World} {cs:List Value} {l:List AtomD} {bss:List (List Nat)} (h:Els w cs l bss) (hb:Below w.heap.size w w'):Els w' cs l bss:=
 ⟨h.1,fun j d hd=>by obtain⟨a,n,c,e1,e2,e3,e4⟩:=h.2 j d hd;exact⟨a,n,c,e1,e2,e3,e4.below hb⟩⟩
def QInv (E:TypeId) (W w:World) (vh:Value) (l:List AtomD) (xv:Value) (bss:List (List Nat)):Prop:=
 BuiltA E W w xv l bss∧w.cell? ⟨W.heap.size,1,none⟩=some xv∧w.cell? ⟨W.heap.size,0,none⟩=some vh∧w.frozen? ⟨W.heap.size,1,none⟩=false∧
 (∀b∈blk xv,b≠W.heap.size∧b∉bss.flatten)∧(∀b∈bss.flatten,W.heap.size<b∧b<w.heap.size)∧W.heap.size<w.heap.size
theorem QInv.step {E:TypeId} {W w w2 wa w3:World} {vh xv v':Value} {l:List AtomD} {cs:List Value} {bss:List (List Nat)} {r:Int} {a:Option Addr} {n c:Nat} {li:List Int} {bs:List Nat}
  (h:QInv E W w vh l xv bss) (h1:BuiltC E 2 W w xv l.length cs) (h2:Els w cs l bss) (hb2:Below w.heap.size w w2) (hba:Below w2.heap.size w2 wa) (ho:OInts w2 (.slice a n c) li bs) (hfr:∀b∈bs,w.heap.size≤b∧b<w2.heap.size) (hr:inI r)
  (h':BuiltC E 2 W w3 v' (l.length+1) (cs++[.int .i64 r,.slice a n c])) (ko:OnlyAt (blk xv) wa w3) (hv':∀b∈blk v',b∈blk xv∨wa.heap.size≤b) :
  QInv E W (w3.setCell ⟨W.heap.size,1,none⟩ v') vh (l++[(r,li)]) v' (bss++[bs]):=by
 obtain⟨_,h3,h4,h5,h6,h7,h8⟩:=h;have hwa:Below w.heap.size w wa:=bnext hb2 hba;have hs2:=hb2.size;have hsa:=hba.size;have hs3:=ko.size;have hlt:=blk_lt h1;have hbx:∀b∈bs,b∉blk xv:=fun b hb hx=>by have:=hlt b hx;have:=(hfr b hb).1;omega
 have hn:∀b∈bss.flatten,b∉blk xv:=fun b hb hx=>(h6 b hx).2 hb
 have hxb:W.heap.size∉blk xv:=fun hx=>(h6 _ hx).1 rfl
 have h9:=BuiltA.app (h1.grow hwa) (h2.grow hwa) h' ko hn hr (ho.below hba) hbx;have hfl:∀b∈(bss++[bs]).flatten,b∈bss.flatten∨b∈bs:=by intro b hb;simpa using hb
 have kst:=OnlyAt.setCell w3 W.heap.size 1 v';have k3:=ko.cell hxb (cellk hwa h3);have k4:=ko.cell hxb (cellk hwa h4);have hsz:(w3.setCell ⟨W.heap.size,1,none⟩ v').heap.size=w3.heap.size:=by simp[World.setCell]
 refine⟨h9.onlyAt kst (fun x hx=>by simp at hx;omega) (fun b hb hx=>?_) (fun b hb hx=>?_),World.cell?_setCell_same _ _ _ k3,?_,?_,fun b hb=>?_,fun b hb=>?_,by rw[hsz];omega⟩
 ·simp at hx;subst hx;rcases hv' _ hb with h|h
  ·exact hxb h
  ·omega
 ·simp at hx;subst hx;rcases hfl _ hb with h|h
  ·have:=(h7 _ h).1;omega
  ·have:=(hfr _ h).1;omega
 ·rw[World.cell?_setCell_other _ _ _ _ (by intro e;cases e)];exact k4
 ·have hf3:=ko.frozen (o:=1) (by omega) hxb (frok hwa h3 h5);simpa using hf3
 ·rcases hv' _ hb with h|h
  ·refine⟨(h6 _ h).1,fun hx=>?_⟩;rcases hfl _ hx with h'|h'
   ·exact (h6 _ h).2 h'
   ·exact hbx _ h' h
  ·refine⟨by omega,fun hx=>?_⟩;rcases hfl _ hx with h'|h'
   ·have:=(h7 _ h').2;omega
   ·have:=(hfr _ h').2;omega
 ·rw[hsz];rcases hfl _ hb with h|h
  ·have:=h7 _ h;exact⟨this.1,by omega⟩
  ·have:=hfr _ h;exact⟨by omega,by omega⟩
theorem QInv.done {E:TypeId} {W w:World} {vh xv:Value} {l:List AtomD} {bss:List (List Nat)} {hd:List Int} {bh:List Nat} {rb:Nat} (h:QInv E W w vh l xv bss) (ho:OInts W vh hd bh) (hb:∀b∈bh,b≠rb) (hr:rb<W.heap.size) {w':World} (k:OnlyAt [rb] w w'):Ints w' vh hd∧RdAtomS w' xv l:=by
 obtain⟨h1,h3,h4,h5,h6,h7,h8⟩:=h;refine⟨((ho.below h1.below).onlyAt k (fun b hb' hx=>hb b hb' (by simpa using hx))).1,?_⟩;obtain⟨bs,hro,hbs⟩:=h1.ro;obtain⟨cs,hc,_⟩:=h1;refine (hro.onlyAt k (fun b hb' hx=>?_)).rd;simp at hx;subst hx;rcases hbs _ hb' with h|h
 ·rcases hc.form with⟨rfl,_⟩|⟨g,cap,rfl,_,_⟩
  ·simp[blk] at h
  ·simp[blk] at h;subst h;have:=hc.lt.1;omega
 ·have:=(h7 _ h).1;omega
theorem OnlyAt.above {bs bs':List Nat} {w0 w w':World} (h:OnlyAt bs w0 w) (k:OnlyAt bs' w w') (hn:∀b∈bs',w0.heap.size≤b):OnlyAt bs w0 w':=
 ⟨k.os.trans h.os,k.tape.trans h.tape,k.output.trans h.output,Nat.le_trans h.size k.size,fun i hi hb=>
  (k.block i (Nat.lt_of_lt_of_le hi h.size) (fun e=>by have:=hn i e;omega)).trans (h.block i hi hb)⟩
theorem QInv.slice {E:TypeId} {W w:World} {vh xv:Value} {l:List AtomD} {bss:List (List Nat)} (h:QInv E W w vh l xv bss):∃a n c,xv=.slice a n c:=by
 obtain⟨⟨cs,hc,_⟩,_⟩:=h;rcases hc.form with⟨rfl,_⟩|⟨g,cap,rfl,_,_⟩
 ·exact⟨_,_,_,rfl⟩
 ·exact⟨_,_,_,rfl⟩
def OutInv (E:TypeId) (W w:World) (v:Value) (l:List AtomD) (bss:List (List Nat)):Prop:=
 BuiltA E W w v l bss∧(blk v++bss.flatten).Nodup∧(∀b∈bss.flatten,W.heap.size≤b∧b<w.heap.size)
theorem OutInv.below {E:TypeId} {W w:World} {v:Value} {l:List AtomD} {bss:List (List Nat)} (h:OutInv E W w v l bss):Below W.heap.size W w:=h.1.below
theorem OutInv.grow {E:TypeId} {W w w':World} {v:Value} {l:List AtomD} {bss:List (List Nat)} (h:OutInv E W w v l bss) (hb:Below w.heap.size w w'):OutInv E W w' v l bss:=
 ⟨h.1.grow hb,h.2.1,fun b hx=>⟨(h.2.2 b hx).1,Nat.lt_of_lt_of_le (h.2.2 b hx).2 hb.size⟩⟩
theorem OutInv.lit (E:TypeId) (W w:World) (hb:Below W.heap.size W w):OutInv E W (w.alloc (.cells #[] E)) (.slice (some ⟨w.heap.size,0,none⟩) 0 0) [] []:=by
 have h:=BuiltC.lit E 2 W w 0 [] (Nat.zero_le _) rfl hb;exact⟨⟨[],h,rfl,fun j d h=>by simp at h⟩,by simp[blk],fun b hb=>by simp at hb⟩
theorem OutInv.nil (E:TypeId) (W w:World) (hb:Below W.heap.size W w):OutInv E W w (.slice none 0 0) [] []:=
 ⟨BuiltA.nil E W w hb,by simp[blk],fun b hb=>by simp at hb⟩
theorem OutInv.parts {E:TypeId} {W w:World} {v:Value} {l:List AtomD} {bss:List (List Nat)} (h:OutInv E W w v l bss):∃cs,BuiltC E 2 W w v l.length cs∧Els w cs l bss:=h.1
theorem OutInv.step {E:TypeId} {W w w2 wa w3:World} {v v':Value} {l:List AtomD} {cs:List Value} {bss:List (List Nat)} {r:Int} {a:Option Addr} {n c:Nat} {li:List Int} {bs:List Nat}
  (h:OutInv E W w v l bss) (h1:BuiltC E 2 W w v l.length cs) (h2:Els w cs l bss) (hb2:Below w.heap.size w w2) (hba:Below w2.heap.size w2 wa) (ho:OInts w2 (.slice a n c) li bs) (hfr:Fresh w w2 bs) (hr:inI r)
  (h':BuiltC E 2 W w3 v' (l.length+1) (cs++[.int .i64 r,.slice a n c])) (ko:OnlyAt (blk v) wa w3) (hv':∀b∈blk v',b∈blk v∨wa.heap.size≤b) :
  OutInv E W w3 v' (l++[(r,li)]) (bss++[bs]):=by
 obtain⟨_,h6,h7⟩:=h;have hwa:Below w.heap.size w wa:=bnext hb2 hba;have hs2:=hb2.size;have hsa:=hba.size;have hs3:=ko.size;have hW:=h1.2.size;have hlt:=blk_lt h1;rw[List.nodup_append] at h6;obtain⟨n1,n2,n3⟩:=h6;have hbx:∀b∈bs,b∉blk v:=fun b hb hx=>by have:=hlt b hx;have:=hfr.lo b hb;omega
 have hn:∀b∈bss.flatten,b∉blk v:=fun b hb hx=>n3 b hx b hb rfl
 have e:(bss++[bs]).flatten=bss.flatten++bs:=by simp
 refine⟨BuiltA.app (h1.grow hwa) (h2.grow hwa) h' ko hn hr (ho.below hba) hbx,?_,?_⟩
 ·rw[e,List.nodup_append,List.nodup_append];refine⟨?_,⟨n2,hfr.1,fun x hx y hy e=>?_⟩,fun x hx y hy e=>?_⟩
  ·rcases h'.form with⟨rfl,_⟩|⟨g,cap,rfl,_,_⟩<;>simp[blk]
  ·have:=(h7 x hx).2;have:=hfr.lo y hy;omega
  ·subst e;rcases hv' x hx with hx|hx
   ·rcases List.mem_append.1 hy with hy|hy
    ·exact n3 x hx x hy rfl
    ·exact hbx x hy hx
   ·rcases List.mem_append.1 hy with hy|hy
    ·have:=(h7 x hy).2;omega
    ·have:=(hfr.2 x hy).2;omega
 ·intro b hb;rw[e] at hb;rcases List.mem_append.1 hb with hb|hb
  ·have:=h7 b hb;omega
  ·have:=hfr.2 b hb;omega
theorem OutInv.done {E:TypeId} {W w:World} {v:Value} {l:List AtomD} {bss:List (List Nat)} (h:OutInv E W w v l bss):∃bs,ROAtomS w v l bs∧Fresh W w bs:=by
 obtain⟨bs,h1,h2,_⟩:=h.1.owns h.2.1 h.2.2;exact⟨bs,h1,h2⟩
def PartA (E:TypeId) (W w:World) (g n:Nat) (l:List AtomD) (bss:List (List Nat)):Prop:=
 ∃cs,BuiltC E 2 W w (.slice (some ⟨g,0,none⟩) n n) n cs∧Els w cs l bss∧l.length≤n∧(g::bss.flatten).Nodup∧(∀b∈bss.flatten,W.heap.size≤b∧b<w.heap.size)
theorem PartA.made {E:TypeId} {W w:World} {g n:Nat} {cs:List Value} (h:BuiltC E 2 W w (.slice (some ⟨g,0,none⟩) n n) n cs):PartA E W w g n [] []:=
 ⟨cs,h,⟨rfl,fun j d h=>by simp at h⟩,Nat.zero_le _,by simp,fun b hb=>by simp at hb⟩
theorem PartA.below {E:TypeId} {W w:World} {g n:Nat} {l:List AtomD} {bss:List (List Nat)} (h:PartA E W w g n l bss):Below W.heap.size W w:=by
 obtain⟨cs,h1,_⟩:=h;exact h1.2
theorem PartA.grow {E:TypeId} {W w w':World} {g n:Nat} {l:List AtomD} {bss:List (List Nat)} (h:PartA E W w g n l bss) (hb:Below w.heap.size w w'):PartA E W w' g n l bss:=by
 obtain⟨cs,h1,h2,h3,h4,h5⟩:=h;exact⟨cs,h1.grow hb,h2.grow hb,h3,h4,fun b hx=>⟨(h5 b hx).1,Nat.lt_of_lt_of_le (h5 b hx).2 hb.size⟩⟩
theorem PartA.cells {E:TypeId} {W w:World} {g n:Nat} {l:List AtomD} {bss:List (List Nat)} (h:PartA E W w g n l bss) (i:Nat) (hi:i<n):∃u v,w.cell? ⟨g,i*2,none⟩=some u∧w.cell? ⟨g,i*2+1,none⟩=some v:=by
 obtain⟨cs,h1,_⟩:=h;have hl:=h1.len;refine⟨cs[i*2]'(by omega),cs[i*2+1]'(by omega),?_,?_⟩
 ·rw[h1.cell _ (by omega)];exact List.getElem?_eq_getElem _
 ·rw[h1.cell _ (by omega)];exact List.getElem?_eq_getElem _
theorem PartA.frozen {E:TypeId} {W w:World} {g n:Nat} {l:List AtomD} {bss:List (List Nat)} (h:PartA E W w g n l bss) (j:Nat):w.frozen? ⟨g,j,none⟩=false:=by
 obtain⟨cs,h1,_⟩:=h;exact h1.frozen j
theorem PartA.step {E:TypeId} {W w w2:World} {g n:Nat} {l:List AtomD} {bss:List (List Nat)} {i:Nat} {a:Option Addr} {m c:Nat} {li:List Int} {bs:List Nat} {r:Int}
  (h:PartA E W w g n l bss) (hi:l.length=i) (hlt:i<n) (hb:Below w.heap.size w w2) (ho:OInts w2 (.slice a m c) li bs) (hfr:Fresh w w2 bs) (hr:inI r) :
  PartA E W ((w2.setCell ⟨g,i*2,none⟩ (.int .i64 r)).setCell ⟨g,i*2+1,none⟩ (.slice a m c)) g n (l++[(r,li)]) (bss++[bs]):=by
 subst hi;obtain⟨cs,h1,h2,h3,h4,h5⟩:=h;have hlen:=h1.len;have hg:=h1.lt.2;have k:OnlyAt [g] w2 ((w2.setCell ⟨g,l.length*2,none⟩ (.int .i64 r)).setCell ⟨g,l.length*2+1,none⟩ (.slice a m c)):=(OnlyAt.setCell _ _ _ _).same (OnlyAt.setCell _ _ _ _);have hgb:∀b∈bs,b≠g:=fun b hx e=>by have:=hfr.lo b hx;omega
 have hgs:∀b∈bss.flatten,b≠g:=fun b hx e=>by
  rw[List.nodup_cons] at h4;exact h4.1 (e ▸ hx)
 have hs2:((w2.setCell ⟨g,l.length*2,none⟩ (.int .i64 r)).setCell ⟨g,l.length*2+1,none⟩ (.slice a m c)).heap.size=w2.heap.size:=by simp[World.setCell]
 refine⟨(cs.set (l.length*2) (.int .i64 r)).set (l.length*2+1) (.slice a m c),((h1.grow hb).store _ _).store _ _,⟨by simp[h2.1],fun j d hd=>?_⟩,by simp;omega,?_,fun b hx=>?_⟩
 ·rcases Nat.lt_or_ge j l.length with hj|hj
  ·rw[List.getElem?_append_left hj] at hd;obtain⟨a',n',c',e1,e2,e3,e4⟩:=h2.2 j d hd;refine⟨a',n',c',?_,?_,e3,?_⟩
   ·rw[List.getElem?_set_ne (by omega),List.getElem?_set_ne (by omega)];exact e1
   ·rw[List.getElem?_set_ne (by omega),List.getElem?_set_ne (by omega)];exact e2
   ·have e5:(bss++[bs]).getD j []=bss.getD j []:=by
     rw[List.getD_eq_getElem?_getD,List.getD_eq_getElem?_getD,List.getElem?_append_left (by rw[h2.1];exact hj)]
    rw[e5];exact (e4.below hb).onlyAt k (fun x hx hm=>hgs x (getD_mem_flatten hx) (by simpa using hm))
  ·have hj2:j=l.length:=by
    have:=(List.getElem?_eq_some_iff.1 hd).1;simp at this;omega
   subst hj2;have hd':d=(r,li):=by simpa using hd.symm
   subst hd';refine⟨a,m,c,?_,?_,hr,?_⟩
   ·rw[List.getElem?_set_ne (by omega),List.getElem?_set_self (by omega)]
   ·rw[List.getElem?_set_self (by simp;omega)]
   ·have e5:(bss++[bs]).getD l.length []=bs:=by
     rw[List.getD_eq_getElem?_getD,List.getElem?_append_right (by rw[h2.1];exact Nat.le_refl _),h2.1];simp
    rw[e5];exact ho.onlyAt k (fun x hx hm=>hgb x hx (by simpa using hm))
 ·rw[List.nodup_cons] at h4 ⊢;have e:(bss++[bs]).flatten=bss.flatten++bs:=by simp
  rw[e,List.nodup_append,List.mem_append];refine⟨?_,h4.2,hfr.1,fun x hx y hy e=>?_⟩
  ·rintro (hx|hx)
   ·exact h4.1 hx
   ·exact hgb g hx rfl
  ·have:=(h5 x hx).2;have:=hfr.lo y hy;omega
 ·rw[hs2];have e:(bss++[bs]).flatten=bss.flatten++bs:=by simp
  rw[e] at hx;have hw:=h1.2.size;have:=hb.size;rcases List.mem_append.1 hx with hx|hx
  ·have:=h5 b hx;omega
  ·have:=hfr.2 b hx;omega
theorem PartA.done {E:TypeId} {W w:World} {g n:Nat} {l:List AtomD} {bss:List (List Nat)} (h:PartA E W w g n l bss) (hl:l.length=n):∃bs,ROAtomS w (.slice (some ⟨g,0,none⟩) n n) l bs∧Fresh W w bs:=by
 obtain⟨cs,h1,h2,h3,h4,h5⟩:=h;subst hl;have hA:BuiltA E W w (.slice (some ⟨g,0,none⟩) l.length l.length) l bss:=⟨cs,h1,h2⟩;obtain⟨bs,b1,b2,_⟩:=hA.owns (by simpa[blk] using h4) h5;exact⟨bs,b1,b2⟩
end Go.Proofs.YtpedpbbiamhgdaaGreatDoor
