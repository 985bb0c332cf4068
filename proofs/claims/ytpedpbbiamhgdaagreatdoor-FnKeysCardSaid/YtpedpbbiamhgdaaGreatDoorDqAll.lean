import Derived.Test.YtpedpbbiamhgdaaGreatDoorDrAll
import Derived.Test.YtpedpbbiamhgdaaGreatDoorSq4all
import Derived.Test.YtpedpbbiamhgdaaGreatDoorBase
namespace Go.Proofs.YtpedpbbiamhgdaaGreatDoor
open Go Go.Sort Go.RowKit
set_option linter.unusedVariables false
def SBd (s:List Int):Prop:=1≤s.length∧s.length≤4∧∀x∈s,1≤x∧x≤3
theorem SBd.at {s:List Int} (h:SBd s) {j:Nat} (hj:j<s.length):1≤s.getD j 0∧s.getD j 0≤3:=by
 rw[List.getD_eq_getElem?_getD,List.getElem?_eq_getElem hj];exact h.2.2 _ (List.getElem_mem hj)
def DrewSB (w:World) (S:Value) (len cb:Nat) (e:Ending) (w':World):Prop:=
 ∃xv l,e=.returned (.agg #[xv])∧OwI w.heap.size w' xv l∧SBd l∧DSt w w' S len cb
def DrawnR (lo hi:Int) (w:World) (S:Value) (len cb:Nat) (e:Ending) (w':World):Prop:=
 ∃x:Int,lo≤x∧x≤hi∧e=.returned (.int .i64 x)∧Cur w' S len cb∧w.grownBy w' (some cb)
theorem l2Term_any (w:World) (S:Value) (len cb:Nat) (h:St w S len cb) :
  Calls Tryz.prog 150 #[.pointer (some ⟨cb,0,none⟩)] w (DrawnR (-3) 3 w S len cb):=by
 have hbl:=Lib.hid (fun n w h h0 h1=>l1Below_any n w S len cb h h0 h1);have hon:=Lib.hid (fun n w h h0 h1=>l1Once_any n w S len cb h h0 h1);have HS:=Lib.hid h;clear h;go_enter Tryz.func150,Tryz.ntmps150
 go_wp2_with fail
 refine (hon.out 4 _ HS.out (by omega) (by omega)).mono ?_;rintro e w1 ⟨b,rfl,hcur,hg⟩;have HS1:=Lib.hid (HS.out.next hcur hg);have HG1:=Lib.hid hg;clear hcur hg
 cases b with
 |true=>
  go_wp2_with fail
  refine (hbl.out 3 _ HS1.out (by omega) (by omega)).mono ?_;rintro e w2 ⟨x,hx0,hx1,rfl,hcur,hg⟩;have HC:=Lib.hid hcur;have HG:=Lib.hid (grownBy_trans HG1.out hg);clear hcur hg;go_wp2_with fail
  go_ret;exact⟨-1-x,by omega,by omega,rfl,HC.out,HG.out⟩
 |false=>
  go_wp2_with fail
  refine (hbl.out 4 _ HS1.out (by omega) (by omega)).mono ?_;rintro e w2 ⟨x,hx0,hx1,rfl,hcur,hg⟩;have HC:=Lib.hid hcur;have HG:=Lib.hid (grownBy_trans HG1.out hg);clear hcur hg;go_wp2_with fail
  go_ret;exact⟨x,by omega,by omega,rfl,HC.out,HG.out⟩
set_option maxRecDepth 100000 in
set_option maxHeartbeats 8000000 in
theorem l3SchemaB_any (w:World) (S:Value) (len cb:Nat) (h:St w S len cb) :
  Calls Tryz.prog 99 #[.pointer (some ⟨cb,0,none⟩)] w (DrewSB w S len cb):=by
 have hbl:=Lib.hid (fun n w h h0 h1=>l1Below_any n w S len cb h h0 h1);have HS:=Lib.hid h;have hcb:=h.cb_lt;obtain⟨W1,hW1⟩:∃W1,W1=(((w.alloc (.cells #[.slice none 0 0] 26)).alloc (.cells #[.int .i64 2] 3)).alloc (.cells #[.slice (some ⟨w.heap.size+1,0,none⟩) 1 1] 26)):=⟨_,rfl⟩
 have hS1:SI w (.cells #[.slice none 0 0] 26 (0,0)) (.slice none 0 0) w.heap.size (w.heap.size+2) 0 W1 (.slice (some ⟨w.heap.size+1,0,none⟩) 1 1) [2] S len cb:=by
  have e1:OwI w.heap.size ((w.alloc (.cells #[.slice none 0 0] 26)).alloc (.cells #[.int .i64 2] 3)) (.slice (some ⟨w.heap.size+1,0,none⟩) 1 1) [2]:=by
   have:=OwI.lit w.heap.size (w.alloc (.cells #[.slice none 0 0] 26)) [2] (by simp) (by decide) (fun x hx=>by simp at hx;subst hx;unfold inI;omega);simpa using this
  have hb:Below w.heap.size w W1:=by rw[hW1];exact (((Below.refl _ _).alloc (Nat.le_refl _) _).alloc (by simp) _).alloc (by simp;omega) _
  have hr0:W1.heap[w.heap.size]?=some (.cells #[.slice none 0 0] 26 (0,0)):=by
   have hb1:=(below_alloc (w.alloc (.cells #[.slice none 0 0] 26)) (.cells #[.int .i64 2] 3));have hb2:=bnext hb1 (below_alloc _ (.cells #[.slice (some ⟨w.heap.size+1,0,none⟩) 1 1] 26));rw[hW1,hb2.block _ (by simp)];exact heap_alloc_new w _
  have hf2:W1.heap[w.heap.size+2]?=some (.cells #[.slice (some ⟨w.heap.size+1,0,none⟩) 1 1] 26 (0,0)):=by
   have:=heap_alloc_new ((w.alloc (.cells #[.slice none 0 0] 26)).alloc (.cells #[.int .i64 2] 3)) (.cells #[.slice (some ⟨w.heap.size+1,0,none⟩) 1 1] 26);rw[hW1];simpa using this
  refine⟨?_,?_,?_,fun hne=>absurd rfl hne,?_,?_,?_,(DSt.start h).below hb⟩
  ·rw[hW1];exact e1.below (below_alloc _ _)
  ·rw[cell_of_row W1 _ 0 _ _ _ hf2];rfl
  ·exact frozen_of_row W1 _ 0 _ _ hf2
  ·exact hr0
  ·simp[blk]
  ·rw[hW1];simp
 have H1:=Lib.hid hS1;clear h hS1;go_enter Tryz.func99,Tryz.ntmps99
 go_wp2_with fail
 obtain⟨fb,hfb⟩:∃fb,fb=w.heap.size+1+1:=⟨_,rfl⟩
 obtain⟨rb,hrb⟩:∃rb,rb=w.heap.size:=⟨_,rfl⟩
 obtain⟨xv,hxv⟩:∃xv,xv=(.slice (some ⟨w.heap.size+1,0,none⟩) 1 1:Value):=⟨_,rfl⟩
 rw[←hW1,←hfb];refine (hbl.out 3 _ H1.out.st (by omega) (by omega)).mono ?_;rintro e w1 ⟨x,hx0,hx1,rfl,hcur,hg⟩;have H2:=Lib.hid (H1.out.draw hcur hg);rw[←hxv] at H2;have e2:w.heap.size+2=fb:=hfb.symm;rw[e2] at H2;rw[←hrb] at H2 ⊢;obtain⟨x,rfl⟩:=Int.eq_ofNat_of_zero_le hx0;have hRB:rb≠fb:=by omega
 clear hcur hg hW1 hx0 H1 hfb e2 hrb hxv;go_wp2_with fail
 go_loopw [4,5] (fun nv _ wr=>∃(k:Nat) (ov:Value) (l:List Int),nv=.int .i64 k∧1≤l.length∧k+l.length≤3∧(∀x∈l,1≤x∧x≤3)∧Hid (SI w (.cells #[.slice none 0 0] 26 (0,0)) (.slice none 0 0) rb fb 0 wr ov l S len cb)) (fun nv _ _=>(intOf nv).toNat)
 case atStart=>exact⟨x,xv,[2],rfl,by simp,by simp;omega,(fun z hz=>by simp at hz;omega),H2⟩
 case round=>
  obtain⟨k,ov,l,rfl,hl1,hl3,hlx,HI⟩:=hrel;have HLX:=Lib.hid hlx;clear hlx;by_cases hk0:0<k
  ·go_wp2_with fail
   refine (hbl.out 3 _ HI.out.st (by omega) (by omega)).mono ?_;rintro e w3 ⟨y,hy0,hy1,rfl,hcur,hg⟩;have HI3:=Lib.hid (HI.out.draw hcur hg);have kf:=HI3.out.2.1;obtain⟨W,hWs,hbt⟩:=HI3.out.1.built;have HBT:=Lib.hid hbt;clear hcur hg hbt;go_wp2_with (at_builtin;refine wpList_app1D rfl (.tmp 18) (.tmp 20) 24 rfl 3 (.int .i64 0) 1 8 Tryz.underlying24 info_intD (by decide) (by decide) (by rfl) ov l.length (l.map (Value.int .i64)) rfl HBT.out [.int .i64 (1+y)] rfl (by simp[Value.oneCell']) (by first|rfl|(simp;rfl)) (by omega) ?_)
   intro v' w4 hown' ko hbl;rcases hown'.form with⟨_,h0⟩|⟨g4,c4,rfl,_,_⟩
   ·omega
   have HI4:=Lib.hid (HI3.out.step hWs hown' ko hbl (by unfold inI;omega))
   obtain⟨kc,kz⟩:(∃u,w4.cell? ⟨fb,0,none⟩=some u)∧w4.frozen? ⟨fb,0,none⟩=false:=by
    have hnf:fb∉blk ov:=fun hm=>(HI3.out.2.2.2.2.2.1 _ hm).1 rfl
    exact⟨⟨_,ko.cell hnf HI3.out.2.1⟩,ko.frozen HI3.out.2.2.2.2.2.2.1.2.1 hnf HI3.out.2.2.1⟩
   obtain⟨u,kc⟩:=kc;clear hown' ko hbl kf HI3 HBT;go_wp2_with fail
   exact⟨⟨k-1,_,l++[1+y],by rw[show ((k:Int)-1)=((k-1:Nat):Int) from by omega],by simp,by simp;omega,(fun z hz=>by
    rcases List.mem_append.1 hz with hz|hz
    ·exact HLX.out z hz
    ·simp at hz;omega),HI4⟩,by simp[intOf];omega⟩
  ·obtain rfl:k=0:=by omega
   have kf:=HI.out.2.1;have kr0:wr.cell? ⟨rb,0,none⟩=some (.slice none 0 0):=by rw[cell_of_row wr rb 0 _ _ _ HI.out.2.2.2.2.1];rfl
   have kr1:=frozen_of_row wr rb 0 _ _ HI.out.2.2.2.2.1;obtain⟨oa,oc,rfl⟩:=HI.out.1.shape;go_wp2_with fail
   have ko:=OnlyAt.setCell wr rb 0 (.slice oa l.length oc);refine bodyPost_ret (v:=.agg #[.slice oa l.length oc]) (by simp[results,Tryz.results99,go_sem,kr0]) rfl ?_;refine⟨_,l,rfl,HI.out.1.only ko (fun b hb hm=>by simp at hm;exact (HI.out.2.2.2.2.2.1 b hb).2 hm),⟨hl1,by omega,HLX.out⟩,HI.out.2.2.2.2.2.2.2.only ko (fun b hm=>by simp at hm;have:=HI.out.2.2.2.2.2.2.1;omega)⟩
set_option maxRecDepth 100000 in
set_option maxHeartbeats 8000000 in
theorem l3Atom_any (w:World) (S:Value) (len cb:Nat) (base:Nat) (sv:Value) (s:List Int) (h:St w S len cb) (hv:OwI base w sv s) (hcb:cb<base) (hs:SBd s) :
  Calls Tryz.prog 146 #[.pointer (some ⟨cb,0,none⟩),.agg #[sv]] w (DrewF 1 3 w S len cb):=by
 have hbl:=Lib.hid (fun n w h h0 h1=>l1Below_any n w S len cb h h0 h1);have htm:=Lib.hid (fun w h=>l2Term_any w S len cb h);have HS:=Lib.hid h;have HV:=Lib.hid hv;have hcbw:=h.cb_lt;obtain⟨sa,sc,rfl⟩:=hv.shape;obtain⟨sn,hsn⟩:∃n,s.length=n:=⟨_,rfl⟩
 have hs1:=hs.1;have hs2:=hs.2.1;have HAT:=Lib.hid (fun j (hj:j<s.length)=>SBd.at hs hj);rw[hsn] at HV hs1 hs2 ⊢;obtain⟨sg,rfl,hsg,hsc,hsm,hcell⟩:=HV.out.at hsn (by omega);unfold maxLen at hsm;have HSN:=Lib.hid hsn;obtain⟨wB,hwB⟩:∃wB,wB=w.alloc (.cells #[.slice (some ⟨sg,0,none⟩) sn sc] 26):=⟨_,rfl⟩
 have HBB:Hid (Below w.heap.size w wB):=by rw[hwB];exact below_alloc w _
 have hSB:St wB S len cb:=by rw[hwB];exact h.alloc _
 have HSB:=Lib.hid hSB;have hbs:wB.heap.size=w.heap.size+1:=by rw[hwB];simp
 have KB:Hid (wB.cell? ⟨w.heap.size,0,none⟩=some (.slice (some ⟨sg,0,none⟩) sn sc)):=by unfold Hid;rw[hwB];simp
 have KC:Hid (∀j,j<sn→wB.cell? ⟨sg,j,none⟩=some (.int .i64 (s.getD j 0))):=fun j hj=>cellk HBB.out (hcell j hj)
 have HD0:=Lib.hid (DSt.start (hSB.alloc (.cells #[.int .i64 0,.slice none 0 0] 83)));clear h hv hs hSB hcell;go_enter Tryz.func146,Tryz.ntmps146
 go_wp2_with fail
 rw[←hwB];refine (hbl.out sn _ HD0.out.st (by omega) (by omega)).mono ?_;rintro e w1 ⟨r,hr0,hr1,rfl,hcur,hg⟩;have hd:=HD0.out.draw hcur hg;obtain⟨r,rfl⟩:=Int.eq_ofNat_of_zero_le hr0;have hrs:r<sn:=by omega
 have H1:=Lib.hid (SI.start (cs:=#[.int .i64 r,.slice none 0 0]) (T:=83) (o:=1) (x0:=.int .i64 r) HSB.out hd (OwI.nil wB.heap.size w1 (by have:=hd.size;simp at this;omega)) (fun b hb=>by simp[blk] at hb) rfl (fun _=>rfl));have hw1:wB.heap.size<w1.heap.size:=by have:=hd.size;simp at this;omega
 obtain⟨hk1,hk3⟩:=HAT.out r (by omega);have KS:=Lib.hid (KC.out r hrs);generalize s.getD r 0=k at *;obtain⟨k,rfl⟩:=Int.eq_ofNat_of_zero_le (by omega:0≤k);obtain⟨fb,hfb⟩:∃fb,fb=w1.heap.size:=⟨_,rfl⟩
 obtain⟨rb,hrb⟩:∃rb,rb=wB.heap.size:=⟨_,rfl⟩
 obtain⟨sb,hsb⟩:∃sb,sb=w.heap.size:=⟨_,rfl⟩
 have hRB:rb≠fb:=by omega
 have hsbl:sb<wB.heap.size:=by omega
 have hsbc:sb≠cb:=by omega
 have hsgc:sg≠cb:=by omega
 rw[←hfb,←hrb] at H1;clear hcur hg hd HD0 hr0 hr1;go_wp2_with fail
 rw[←hfb,←hsb];have e1:sb+1=rb:=by omega
 rw[e1];rw[←hsb] at KB;have HBS:=Lib.hid hbs;have HSBE:=Lib.hid hsb;clear hfb hrb e1 hw1 hsb hbs hwB
 go_loopw [6,7] (fun iv _ wr=>∃(i:Nat) (ov:Value) (l:List Int),iv=.int .i64 i∧l.length=i∧i≤k∧Hid (SI wB (.cells #[.int .i64 0,.slice none 0 0] 83 (0,0)) (.int .i64 r) rb fb 1 wr ov l S len cb)) (fun iv _ _=>k-(intOf iv).toNat)
 case atStart=>exact⟨0,_,[],rfl,rfl,by omega,H1⟩
 case round=>
  obtain⟨i,ov,l,rfl,hli,hik,HI⟩:=hrel;have hd:=HI.out.2.2.2.2.2.2.2;have kb:=hd.cell hsbc KB.out;have ks:=hd.cell hsgc KS.out;obtain⟨kr,kr'⟩:=HI.out.2.2.2.1 (by omega);have kf:=HI.out.2.1;clear hd;have hr0:(0:Int)≤r:=by omega
  have hr1:(r:Int)<sn:=by omega
  by_cases hlt:i<k
  ·go_wp2_with fail
   refine (htm.out _ HI.out.st).mono ?_;rintro e w3 ⟨y,hy0,hy1,rfl,hcur,hg⟩;have HI3:=Lib.hid (HI.out.draw hcur hg);clear kb ks kr kr' kf hcur hg;have kf:=HI3.out.2.1;obtain⟨W,hWs,hbt⟩:=HI3.out.1.built;have HBT:=Lib.hid hbt;clear hbt;go_wp2_with (at_builtin;refine wpList_app1D rfl (.tmp 27) (.tmp 29) 24 rfl 3 (.int .i64 0) 1 8 Tryz.underlying24 info_intD (by decide) (by decide) (by rfl) ov l.length (l.map (Value.int .i64)) rfl HBT.out [.int .i64 y] rfl (by simp[Value.oneCell']) (by first|rfl|(simp;rfl)) (by omega) ?_)
   intro v' w4 hown' ko hbl2;rcases hown'.form with⟨_,h0⟩|⟨g4,c4,rfl,_,_⟩
   ·omega
   have HI4:=Lib.hid (HI3.out.step (x:=y) hWs (by rw[hli];exact hown') ko hbl2 (by unfold inI;omega));obtain⟨z1,z2,_,_⟩:=HI3.out.after ko;clear hown' ko hbl2 kf HI3 HBT;go_wp2_with fail
   exact⟨⟨i+1,_,l++[y],by simp,by simp;omega,by omega,HI4⟩,by simp[intOf];omega⟩
  ·obtain rfl:i=k:=by omega
   obtain⟨oa,oc,rfl⟩:=HI.out.1.shape;rw[hli] at HI kf;have HLI:=Lib.hid hli;clear hli;have hrow:=HI.out.2.2.2.2.1;have q0:wr.cell? ⟨rb,0,none⟩=some (.int .i64 0):=by rw[cell_of_row wr rb 0 _ _ _ hrow];rfl
   have q1:wr.cell? ⟨rb,1,none⟩=some (.slice none 0 0):=by rw[cell_of_row wr rb 1 _ _ _ hrow];rfl
   have f0:=frozen_of_row wr rb 0 _ _ hrow;have f1:=frozen_of_row wr rb 1 _ _ hrow;clear hrow;go_wp2_with fail
   refine bodyPost_ret (v:=.agg #[.int .i64 r,.slice oa i oc]) (by simp[results,Tryz.results146,go_sem,q0,q1]) rfl ?_;obtain⟨g1,g2⟩:=HI.out.fin (w':=(wr.setCell ⟨rb,0,none⟩ (.int .i64 r)).setCell ⟨rb,1,none⟩ (.slice oa i oc)) ((OnlyAt.setCell _ _ _ _).same (OnlyAt.setCell _ _ _ _));have:=HLI.out;exact⟨r,_,l,rfl,by unfold inI;omega,g1.mono (by have:=HBB.out.size;omega),by omega,by omega,((DSt.start HS.out).below HBB.out).trans g2⟩
def DAs (base:Nat) (w:World) (v:Value) (l:List AtomD):Prop:=∃W bss,W.heap.size=base∧OutInv 83 W w v l bss
theorem DAs.only {base base':Nat} {w w':World} {v:Value} {l:List AtomD} {bs:List Nat} (h:DAs base w v l) (hB:base'≤base) (k:OnlyAt bs w w') (hn:∀b∈bs,b<base):DAs base' w' v l:=by
 obtain⟨W,bss,h1,h2⟩:=h;have hs:=h2.below.size;have hs2:=k.size;obtain⟨W',k1,k2⟩:=virt w' base' (by omega);refine⟨W',bss,k1,h2.rebase (by omega) k2 k (fun b hb hm=>?_) (fun b hb hm=>?_)⟩
 ·have:=h2.blk_lo b hb;have:=hn b hm;omega
 ·have:=h2.2.2 b hb;have:=hn b hm;omega
theorem DAs.below {base:Nat} {w w':World} {v:Value} {l:List AtomD} (h:DAs base w v l) (hb:Below w.heap.size w w'):DAs base w' v l:=h.only (Nat.le_refl _) (OnlyAt.ofBelow [] hb) (fun b hm=>by simp at hm)
theorem DAs.done {base:Nat} {w:World} {v:Value} {l:List AtomD} (h:DAs base w v l):∃bs,ROAtomS w v l bs∧bs.Nodup∧∀b∈bs,base≤b∧b<w.heap.size:=by
 obtain⟨W,bss,h1,h2⟩:=h;obtain⟨bs,h3,h4⟩:=h2.done;exact⟨bs,h3,h4.1,fun b hb=>by rw[←h1];exact h4.2 b hb⟩
theorem DAs.app {base:Nat} {W w w3:World} {v v':Value} {l:List AtomD} {cs:List Value} {bss:List (List Nat)} {r:Int} {a:Option Addr} {n c:Nat} {li:List Int}
  (h:OutInv 83 W w v l bss) (h1:BuiltC 83 2 W w v l.length cs) (h2:Els w cs l bss) (ho:OwI base w (.slice a n c) li) (hv:∀b∈blk v,b<base) (hl:∀b∈bss.flatten,b<base) (hr:inI r)
  (h':BuiltC 83 2 W w3 v' (l.length+1) (cs++[.int .i64 r,.slice a n c])) (ko:OnlyAt (blk v) w w3) (hv':∀b∈blk v',b∈blk v∨w.heap.size≤b) (hB:W.heap.size≤base):DAs W.heap.size w3 v' (l++[(r,li)]):=by
 obtain⟨bs,ho1,ho2,ho3⟩:=ho.owns;obtain⟨_,h6,h7⟩:=h;have hs3:=ko.size;rw[List.nodup_append] at h6;obtain⟨n1,n2,n3⟩:=h6;have hbx:∀b∈bs,b∉blk v:=fun b hb hx=>by have:=hv b hx;have:=ho3 b hb;omega
 have hn:∀b∈bss.flatten,b∉blk v:=fun b hb hx=>n3 b hx b hb rfl
 have e:(bss++[bs]).flatten=bss.flatten++bs:=by simp
 refine⟨W,bss++[bs],rfl,BuiltA.app h1 h2 h' ko hn hr ho1 hbx,?_,?_⟩
 ·rw[e,List.nodup_append,List.nodup_append];refine⟨?_,⟨n2,ho2,fun x hx y hy e=>?_⟩,fun x hx y hy e=>?_⟩
  ·rcases h'.form with⟨rfl,_⟩|⟨g,cap,rfl,_,_⟩<;>simp[blk]
  ·have:=hl x hx;have:=ho3 y hy;omega
  ·subst e;rcases hv' x hx with hx|hx
   ·rcases List.mem_append.1 hy with hy|hy
    ·exact n3 x hx x hy rfl
    ·exact hbx x hy hx
   ·rcases List.mem_append.1 hy with hy|hy
    ·have:=(h7 x hy).2;omega
    ·have:=(ho3 x hy).2;omega
 ·intro b hb;rw[e] at hb;rcases List.mem_append.1 hb with hb|hb
  ·have:=h7 b hb;omega
  ·have:=ho3 b hb;omega
theorem DAs.ready {B:Nat} {w4 w5:World} {v:Value} {l:List AtomD} {S:Value} {len cb:Nat} (h:DAs B w4 v l) (hlt:cb<B) (hd:DSt w4 w5 S len cb) :
  ∃W bss cs,W.heap.size=B∧OutInv 83 W w5 v l bss∧BuiltC 83 2 W w5 v l.length cs∧Els w5 cs l bss∧(∀b∈blk v,B≤b∧b<w4.heap.size)∧(∀b∈bss.flatten,b<w4.heap.size)∧B≤w4.heap.size:=by
 obtain⟨W,bss,hW,ho⟩:=h;have hs:=hd.size;have h1:=ho.below.size;obtain⟨W',hW',hb'⟩:=virt w5 B (by omega);have ho5:=ho.rebase (W':=W') (by omega) hb' hd.2.1 (fun b hb hm=>by simp at hm;have:=(ho.blk_lo b hb).1;omega) (fun b hb hm=>by simp at hm;have:=(ho.2.2 b hb).1;omega);obtain⟨cs,c1,c2⟩:=ho5.parts;exact⟨W',bss,cs,hW',ho5,c1,c2,fun b hb=>by have:=ho.blk_lo b hb;omega,fun b hb=>(ho.2.2 b hb).2,by omega⟩
theorem DAs.rd {base:Nat} {w:World} {v:Value} {l:List AtomD} (h:DAs base w v l):RdAtomS w v l:=by
 obtain⟨bs,h1,_⟩:=h.done;exact h1.rd
def DAt (base top:Nat) (w:World) (v:Value) (l:List AtomD):Prop:=∃W bss,W.heap.size=base∧OutInv 83 W w v l bss∧∀b,b∈blk v∨b∈bss.flatten→b<top
theorem DAs.top {base:Nat} {w:World} {v:Value} {l:List AtomD} (h:DAs base w v l):DAt base w.heap.size w v l:=by
 obtain⟨W,bss,h1,h2⟩:=h;exact⟨W,bss,h1,h2,fun b hb=>hb.elim (fun hb=>(h2.blk_lo b hb).2) (fun hb=>(h2.2.2 b hb).2)⟩
theorem DAt.only {base base' top:Nat} {w w':World} {v:Value} {l:List AtomD} {bs:List Nat} (h:DAt base top w v l) (hB:base'≤base) (k:OnlyAt bs w w') (hn:∀b∈bs,b<base∨top≤b):DAt base' top w' v l:=by
 obtain⟨W,bss,h1,h2,h3⟩:=h;have hs:=h2.below.size;have hs2:=k.size;obtain⟨W',k1,k2⟩:=virt w' base' (by omega);refine⟨W',bss,k1,h2.rebase (by omega) k2 k (fun b hb hm=>?_) (fun b hb hm=>?_),h3⟩
 ·have:=h2.blk_lo b hb;have:=hn b hm;have:=h3 b (.inl hb);omega
 ·have:=h2.2.2 b hb;have:=hn b hm;have:=h3 b (.inr hb);omega
theorem DAs.nil (w:World):DAs w.heap.size w (.slice none 0 0) []:=⟨w,[],rfl,OutInv.nil _ w w (Below.refl _ _)⟩
theorem DAs.shape {base:Nat} {w:World} {v:Value} {l:List AtomD} (h:DAs base w v l):∃a c,v=.slice a l.length c:=by
 obtain⟨W,bss,_,⟨cs,h,_⟩,_⟩:=h;rcases h.form with⟨rfl,h0⟩|⟨g,cap,rfl,_⟩
 ·rw[h0];exact⟨_,_,rfl⟩
 ·exact⟨_,_,rfl⟩
theorem OwQ_rd {T base:Nat} {w:World} {hv bv:Value} {d:QueryD} (h1:OwI T w hv d.1) (h2:DAs base w bv d.2):RdQuery w (.agg #[hv,bv]) d:=by
 obtain⟨a,n,c,e,h3⟩:=h2.rd;obtain⟨a',n',c',e'⟩:=h1.ints.shape;subst e;subst e';exact⟨_,_,_,_,_,_,rfl,h1.ints,h3⟩
def QBd (n m:Nat) (d:QueryD):Prop:=d.1.length≤n∧d.2.length≤m∧∀a∈d.2,a.2.length≤4
theorem QBd.size {n m:Nat} {d:QueryD} (h:QBd n m d):sizeAtomS d.2≤5*m:=by
 have:∀l:List AtomD,(∀a∈l,a.2.length≤4)→sizeAtomS l≤5*l.length:=by
  intro l;unfold sizeAtomS sumArgs
  induction l with
  |nil=>simp
  |cons a t ih=>
   intro h;have h1:=h a (by simp);have h2:=ih (fun x hx=>h x (by simp[hx]));simp at h2 ⊢;omega
 have h1:=this d.2 h.2.2;have h2:=h.2.1;omega
theorem bv_len8:∀(l out:List Int),(l.foldl bvStep out).length≤out.length+l.length
 |[],out=>by simp
 |x::l,out=>by
  have h1:=bv_len8 l (bvStep out x);have h2:=bvStep_len out x;rw[List.foldl_cons,List.length_cons];omega
theorem bodyVars_len8 {n m:Nat} {d:QueryD} (h:QBd n m d):(bodyVars d.2).length≤5*m:=by
 have h1:=bv_len8 (d.2.flatMap (·.2)) []
 have h2:=h.size
 have h3:(d.2.flatMap (·.2)).length=sumArgs d.2:=by
  generalize d.2=l
  induction l with
  |nil=>rfl
  |cons d l ih=>simp only[List.flatMap_cons,List.length_append,ih,sumArgs,List.map_cons,List.sum_cons]
 unfold sizeAtomS at h2;unfold bodyVars;simp only[List.length_nil] at h1;omega
def DrewQ (n m:Nat) (w:World) (S:Value) (len cb:Nat) (e:Ending) (w':World):Prop:=
 ∃hv bv d T,e=.returned (.agg #[hv,bv])∧OwI T w' hv d.1∧DAt w.heap.size T w' bv d.2∧w.heap.size≤T∧T≤w'.heap.size∧QBd n m d∧DSt w w' S len cb
def DrewQ1 (n m:Nat) (w:World) (S:Value) (len cb:Nat) (e:Ending) (w':World):Prop:=
 ∃hv bv d T,e=.returned (.agg #[hv,bv])∧OwI T w' hv d.1∧DAt w.heap.size T w' bv d.2∧w.heap.size≤T∧T≤w'.heap.size∧QBd n m d∧DSt w w' S len cb∧1≤d.2.length
theorem OnlyAt.down {bs bs':List Nat} {w w':World} (h:OnlyAt bs w w') (hs:∀x∈bs,x∈bs'∨w.heap.size≤x):OnlyAt bs' w w':=
 ⟨h.os,h.tape,h.output,h.size,fun k hk hn=>h.block k hk (fun hm=>(hs k hm).elim hn (fun h=>by omega))⟩
set_option maxRecDepth 100000 in
set_option maxHeartbeats 16000000 in
theorem l4Query_any1 (w:World) (S:Value) (len cb:Nat) (base:Nat) (sv:Value) (s:List Int) (h:St w S len cb) (hv:OwI base w sv s) (hcb:cb<base) (hs:SBd s) :
  Calls Tryz.prog 100 #[.pointer (some ⟨cb,0,none⟩),.agg #[sv]] w (DrewQ1 2 3 w S len cb):=by
 have hbl:=Lib.hid (fun n w h h0 h1=>l1Below_any n w S len cb h h0 h1);have hon:=Lib.hid (fun n w h h0 h1=>l1Once_any n w S len cb h h0 h1);have hat:=Lib.hid (fun w base sv s h hv hc hs=>l3Atom_any w S len cb base sv s h hv hc hs);have hbv:=Lib.hid (fun w v d h hs=>sBodyVars_any w v d h hs);have HS:=Lib.hid h;have HV:=Lib.hid hv;have HSB:=Lib.hid hs;have hcbw:=h.cb_lt;obtain⟨sa,sc,rfl⟩:=hv.shape;have HVB:=Lib.hid hv.lo;obtain⟨sn,hsn⟩:∃n,s.length=n:=⟨_,rfl⟩
 rw[hsn] at HV HVB ⊢;obtain⟨W3,hW3⟩:∃W3,W3=(((w.alloc (.cells #[.slice sa sn sc] 26)).alloc (.cells #[.slice none 0 0,.slice none 0 0] 29)).alloc (.cells #[.slice none 0 0,.slice none 0 0] 29)):=⟨_,rfl⟩
 have hsz3:W3.heap.size=w.heap.size+3:=by rw[hW3];simp
 have HBW:Hid (Below w.heap.size w W3):=by rw[hW3];exact Lib.hid ((((Below.refl _ _).alloc (Nat.le_refl _) _).alloc (by simp) _).alloc (by simp;omega) _)
 have KS:Hid (W3.cell? ⟨w.heap.size,0,none⟩=some (.slice sa sn sc)):=by unfold Hid;rw[hW3];exact box1 w _ _ _ _ 0 _ rfl
 have KR:Hid (W3.heap[w.heap.size+1]?=some (.cells #[.slice none 0 0,.slice none 0 0] 29 (0,0))):=by
  unfold Hid;rw[hW3,(below_alloc _ _).block _ (by simp)];have:=heap_alloc_new (w.alloc (.cells #[.slice sa sn sc] 26)) (.cells #[.slice none 0 0,.slice none 0 0] 29);simpa using this
 have KF:Hid (W3.heap[w.heap.size+1+1]?=some (.cells #[.slice none 0 0,.slice none 0 0] 29 (0,0))):=by
  unfold Hid;rw[hW3];have:=heap_alloc_new ((w.alloc (.cells #[.slice sa sn sc] 26)).alloc (.cells #[.slice none 0 0,.slice none 0 0] 29)) (.cells #[.slice none 0 0,.slice none 0 0] 29);simpa using this
 clear h hv hs hsn;go_enter Tryz.func100,Tryz.ntmps100
 go_wp2_with fail
 rw[←hW3];obtain⟨sb,hsb⟩:∃x,x=w.heap.size:=⟨_,rfl⟩
 obtain⟨rb,hrb⟩:∃x,x=w.heap.size+1:=⟨_,rfl⟩
 obtain⟨fb,hfb⟩:∃x,x=w.heap.size+1+1:=⟨_,rfl⟩
 rw[←hfb] at KF;rw[←hrb] at KR;rw[←hsb] at KS;simp only[←hfb];simp only[←hrb];simp only[←hsb];have HD3:Hid (DSt w W3 S len cb):=Lib.hid ((DSt.start HS.out).below HBW.out);have n1:sb≠cb:=by omega
 have n2:sb≠fb:=by omega
 have n3:rb≠cb:=by omega
 have n4:rb≠fb:=by omega
 have n5:fb≠cb:=by omega
 have l1:fb<W3.heap.size:=by omega
 have l2:cb<W3.heap.size:=by omega
 have l3:rb<W3.heap.size:=by omega
 have l4:w.heap.size≤fb:=by omega
 have l5:w.heap.size≤rb:=by omega
 have l6:w.heap.size≤W3.heap.size:=by omega
 have l7:sb<W3.heap.size:=by omega
 clear hsb hrb hfb hW3;have e0:W3.cell? ⟨fb,0,none⟩=some (.slice none 0 0):=by rw[cell_of_row W3 fb 0 _ _ _ KF.out];rfl
 have e1:W3.cell? ⟨fb,1,none⟩=some (.slice none 0 0):=by rw[cell_of_row W3 fb 1 _ _ _ KF.out];rfl
 have e2:=frozen_of_row W3 fb 0 _ _ KF.out;have e3:=frozen_of_row W3 fb 1 _ _ KF.out;refine (hbl.out 3 _ HD3.out.st (by omega) (by omega)).mono ?_;rintro e w1 ⟨x,hx0,hx1,rfl,hcur,hg⟩;have ko:=grownBy_only hg;have HD1:=Lib.hid (HD3.out.draw hcur hg);have HO1:Hid (OnlyAt [cb,fb] W3 w1):=Lib.hid (ko.wider (by simp));have HA1:Hid (DAs W3.heap.size w1 (.slice none 0 0) []):=Lib.hid ((DAs.nil W3).only (Nat.le_refl _) ko (fun b hb=>by simp at hb;omega));have HC1:Hid (w1.cell? ⟨fb,0,none⟩=some (.slice none 0 0)∧w1.cell? ⟨fb,1,none⟩=some (.slice none 0 0)∧w1.frozen? ⟨fb,0,none⟩=false∧w1.frozen? ⟨fb,1,none⟩=false):=Lib.hid ⟨ko.cell (by simpa using n5) e0,ko.cell (by simpa using n5) e1,ko.frozen l1 (by simpa using n5) e2,ko.frozen l1 (by simpa using n5) e3⟩;obtain⟨x,rfl⟩:=Int.eq_ofNat_of_zero_le hx0;clear hcur hg ko e0 e1 e2 e3 HD3;go_wp2_with fail
 go_loopw [6] (fun nv wr=>∃(k:Nat) (bv:Value) (bl:List AtomD),nv=.int .i64 k∧k+bl.length≤3∧1≤k+bl.length∧(∀a∈bl,a.2.length≤4)∧Hid (DAs W3.heap.size wr bv bl)∧Hid (wr.cell? ⟨fb,0,none⟩=some (.slice none 0 0)∧wr.cell? ⟨fb,1,none⟩=some bv∧wr.frozen? ⟨fb,0,none⟩=false∧wr.frozen? ⟨fb,1,none⟩=false)∧Hid (OnlyAt [cb,fb] W3 wr)∧Hid (DSt w wr S len cb)) (fun nv _=>(intOf nv).toNat)
 case atStart=>exact⟨x+1,_,[],by rw[show ((1:Int)+(x:Int))=((x+1:Nat):Int) from by omega],by simp;omega,by simp,(fun a ha=>by cases ha),HA1,HC1,HO1,HD1⟩
 case round=>
  clear HA1 HC1 HO1 HD1;obtain⟨k,bv,bl,rfl,hkl,hkp,hb4,HA,HC,HO,HD⟩:=hrel;have HB4:=Lib.hid hb4;obtain⟨ba,bc,rfl⟩:=HA.out.shape;have k0:=HC.out.1;have k1:=HC.out.2.1;have ks:=HO.out.cell (by simp[n1,n2]) KS.out;clear hb4;by_cases hk0:0<k
  ·have HVr:Hid (OwI base wr (.slice sa sn sc) s):=Lib.hid ((HV.out.below HBW.out).only HO.out (fun b hb hm=>by have:=HVB.out b hb;simp at hm;omega));have hwrs:=HO.out.size;go_wp2_with fail
   refine (hat.out wr base _ s HD.out.st HVr.out hcb HSB.out).mono ?_;rintro e w4 ⟨r,xv,al,rfl,hri,hox,hx1,hx3,hd⟩;have k0':=hd.cell n5 k0;have k1':=hd.cell n5 k1;have f0':=hd.frozen n5 (by omega) HC.out.2.2.1;have f1':=hd.frozen n5 (by omega) HC.out.2.2.2;obtain⟨xa,xc,rfl⟩:=hox.shape;have hba:=below_alloc w4 (.cells #[.int .i64 r,.slice xa al.length xc] 83);obtain⟨W,bss,cs,hW,ho,hc1,hc2,hb1,hb2,hb3⟩:=HA.out.ready l2 (hd.below hba);have HOO:=Lib.hid ho;have HC1:=Lib.hid hc1;have HC2:=Lib.hid hc2;have HOX:=Lib.hid (hox.below hba);have HD4:=Lib.hid ((HD.out.trans hd).below hba);have HO4:Hid (OnlyAt [cb,fb] W3 (w4.alloc (.cells #[.int .i64 r,.slice xa al.length xc] 83))):=Lib.hid ((HO.out.same (hd.2.1.wider (by simp))).same (OnlyAt.ofBelow _ hba));have q0:=cellk hba k0';have q1:=cellk hba k1';have g0:=frok hba k0' f0';have g1:=frok hba k1' f1';have Q0:=Lib.hid q0;have Q1:=Lib.hid q1;have G0:=Lib.hid g0;have G1:=Lib.hid g1;have hsz4:=hd.size;clear hox hd ho hc1 hc2 k0 k1 ks g0 g1 hba;go_wp2_with (at_builtin;refine wpList_app1D rfl (.tmp 23) (.tmp 25) 27 rfl 83 (.agg #[.int .i64 0,.slice none 0 0]) 2 32 Tryz.underlying27 info_Atom (by decide) (by decide) (by rfl) (.slice ba bl.length bc) bl.length cs rfl HC1.out [.int .i64 r,.slice xa al.length xc] rfl (by simp[Value.oneCell']) (by first|rfl|(simp;rfl)) (by omega) ?_)
   intro v' w7 hown' ko hbl7;rcases hown'.form with⟨_,h0⟩|⟨g4,c4,rfl,_,_⟩
   ·omega
   have hnf:fb∉blk (.slice ba bl.length bc):=fun hm=>by have:=(hb1 fb hm).1;omega
   have HA7:=Lib.hid (DAs.app (base:=wr.heap.size) HOO.out HC1.out HC2.out HOX.out (fun b hb=>(hb1 b hb).2) hb2 hri hown' ko (fun b hb=>(hbl7 b hb).imp id (fun h=>by simpa using h)) (by omega));rw[hW] at HA7;have HO7:=Lib.hid (HO4.out.above ko (fun b hb=>(hb1 b hb).1));have HD7:=Lib.hid (HD4.out.only ko (fun b hb=>by have:=(hb1 b hb).1;omega));have z0:=ko.cell hnf Q0.out;have z1:=ko.cell hnf Q1.out;have z2:=ko.frozen (Nat.lt_of_lt_of_le l1 (by simp;omega)) hnf G0.out;have z3:=ko.frozen (Nat.lt_of_lt_of_le l1 (by simp;omega)) hnf G1.out;have Z0:=Lib.hid z0;have Z1:=Lib.hid z1;have Z2:=Lib.hid z2;have Z3:=Lib.hid z3;clear hown' ko hbl7 k0' k1' f0' f1' q0 q1 z0 z2 hnf;go_wp2_with fail
   have kst:=OnlyAt.setCell w7 fb 1 (.slice (some ⟨g4,0,none⟩) (bl.length+1) c4)
   refine⟨⟨k-1,_,bl++[(r,al)],by rw[show ((k:Int)-1)=((k-1:Nat):Int) from by omega],by simp;omega,by simp;omega,(fun a ha=>by
    rcases List.mem_append.1 ha with ha|ha
    ·exact HB4.out a ha
    ·simp at ha;rw[ha];show al.length≤4;omega),Lib.hid (HA7.out.only (Nat.le_refl _) kst (fun b hb=>by simp at hb;omega)),Lib.hid ⟨?_,World.cell?_setCell_same _ _ _ Z1.out,by rw[World.frozen?_setCell];exact Z2.out,by rw[World.frozen?_setCell];exact Z3.out⟩,Lib.hid (HO7.out.same (kst.wider (by simp))),Lib.hid (HD7.out.only kst (fun b hb=>by simp at hb;omega))⟩,by simp[intOf];omega⟩
   rw[World.cell?_setCell_other _ _ _ _ (by intro e;cases e)];exact Z0.out
  ·obtain rfl:k=0:=by omega
   have hbl1:1≤bl.length:=by omega
   have hQB:QBd 2 3 ([],bl):=⟨by simp,by simpa using hkl,HB4.out⟩;have hRD:=OwQ_rd (d:=([],bl)) (OwI.nil wr.heap.size wr (Nat.le_refl _)) HA.out;have HBV:=Lib.hid (hbv.out wr _ ([],bl) hRD (by have:=hQB.size;omega));have hwrs:=HO.out.size;clear hQB hRD;go_wp2_with fail
   refine HBV.out.mono ?_;rintro e w2 ⟨vv,vbs,rfl,hvo,hvf,hvb⟩;have HD2:=Lib.hid (HD.out.below hvb);have HO2:Hid (OnlyAt [cb,fb] W3 w2):=Lib.hid (HO.out.same (OnlyAt.ofBelow _ hvb));have HA2:Hid (DAt W3.heap.size w2.heap.size w2 (.slice ba bl.length bc) bl):=Lib.hid (HA.out.below hvb).top;obtain⟨va,vn,vc,rfl⟩:=hvo.1.shape;have hvl:=hvo.1.len_le;obtain⟨_,_,_,e',hvn,_,hvm,_⟩:=hvo.1.cases
   cases e';unfold maxLen at hvm;have HVO:=Lib.hid hvo;have HVF:Hid (∀b∈vbs,b≠cb∧b≠fb):=Lib.hid (fun b hb=>by have:=hvf.lo b hb;omega);have HVN:=Lib.hid hvn;have hv15:vn≤15:=by have h5:=bodyVars_len8 (n:=2) (m:=3) (d:=(([],bl):QueryD)) ⟨by simp,by simpa using hkl,HB4.out⟩;rw[hvn] at h5;exact h5
   have K0:=Lib.hid (cellk hvb k0);have K1:=Lib.hid (cellk hvb k1);have F0:=Lib.hid (frok hvb k0 HC.out.2.2.1);have F1:=Lib.hid (frok hvb k1 HC.out.2.2.2);have hs2:=hvb.size;clear hvo hvf hvb hvl hvn k0 k1 ks HC HA HO HBV HD;go_wp2_with fail
   refine (hbl.out 3 _ HD2.out.st (by omega) (by omega)).mono ?_;rintro e w3 ⟨m,hm0,hm1,rfl,hcur,hg⟩;have ko:=grownBy_only hg;have HD5:=Lib.hid (HD2.out.draw hcur hg);have HO5:Hid (OnlyAt [cb,fb] w2 w3):=Lib.hid (ko.wider (by simp));have HH5:Hid (OwI w2.heap.size w3 (.slice none 0 0) []):=Lib.hid (OwI.nil _ _ ko.size);have HC5:Hid (w3.cell? ⟨fb,0,none⟩=some (.slice none 0 0)∧w3.cell? ⟨fb,1,none⟩=some (.slice ba bl.length bc)∧w3.frozen? ⟨fb,0,none⟩=false∧w3.frozen? ⟨fb,1,none⟩=false):=Lib.hid ⟨ko.cell (by simpa using n5) K0.out,ko.cell (by simpa using n5) K1.out,ko.frozen (by omega) (by simpa using n5) F0.out,ko.frozen (by omega) (by simpa using n5) F1.out⟩;obtain⟨m,rfl⟩:=Int.eq_ofNat_of_zero_le hm0;clear hcur hg ko;go_wp2_with fail
   go_loopw [9,10] (fun nv _ wq=>∃(k:Nat) (hv:Value) (hl:List Int),nv=.int .i64 k∧k+hl.length≤2∧Hid (OwI w2.heap.size wq hv hl)∧Hid (wq.cell? ⟨fb,0,none⟩=some hv∧wq.cell? ⟨fb,1,none⟩=some (.slice ba bl.length bc)∧wq.frozen? ⟨fb,0,none⟩=false∧wq.frozen? ⟨fb,1,none⟩=false)∧Hid (OnlyAt [cb,fb] w2 wq)∧Hid (DSt w wq S len cb)) (fun nv _ _=>(intOf nv).toNat)
   case atStart=>exact⟨m,_,[],rfl,by simp;omega,HH5,HC5,HO5,HD5⟩
   case round=>
    clear HH5 HC5 HO5 HD5;obtain⟨wq,hwq⟩:∃x,x=wr:=⟨_,rfl⟩
    subst hwq;obtain⟨k,hv,hl,rfl,hkl2,HH,HC,HO,HD⟩:=hrel;obtain⟨ha,hc,rfl⟩:=HH.out.shape;have k0:=HC.out.1;have k1:=HC.out.2.1;have hso:=HO.out.size;by_cases hk0:0<k
    ·go_wp2_with fail
     refine (hbl.out 3 _ HD.out.st (by omega) (by omega)).mono ?_;rintro e w4 ⟨y,hy0,hy1,rfl,hcur,hg⟩;have ko:=grownBy_only hg;have HD4:=Lib.hid (HD.out.draw hcur hg);have HO4:Hid (OnlyAt [cb,fb] w2 w4):=Lib.hid (HO.out.same (ko.wider (by simp)));have HH4:=Lib.hid (HH.out.only ko (fun b hb hm=>by have:=HH.out.lo b hb;simp at hm;omega));have q0:=ko.cell (by simpa using n5) k0;have q1:=ko.cell (by simpa using n5) k1;have G0:=Lib.hid (ko.frozen (by omega) (by simpa using n5) HC.out.2.2.1:w4.frozen? ⟨fb,0,none⟩=false);have G1:=Lib.hid (ko.frozen (by omega) (by simpa using n5) HC.out.2.2.2:w4.frozen? ⟨fb,1,none⟩=false);clear hcur hg ko k0 k1;by_cases hvz:vn=0
     ·subst hvz;obtain⟨Wh,hWh,hbt⟩:=HH4.out.built;have HBT:=Lib.hid hbt;clear hbt;go_wp2_with (at_builtin;refine wpList_app1D rfl (.tmp 55) (.tmp 57) 24 rfl 3 (.int .i64 0) 1 8 Tryz.underlying24 info_intD (by decide) (by decide) (by rfl) (.slice ha hl.length hc) hl.length (hl.map (Value.int .i64)) rfl HBT.out [.int .i64 (-1-y)] rfl (by simp[Value.oneCell']) (by first|rfl|(simp;rfl)) (by omega) ?_)
      intro v' w7 hown' ko hbl7;rcases hown'.form with⟨_,h0⟩|⟨g4,c4,rfl,_,_⟩
      ·omega
      have hlo:=HH4.out.lo;have hnf:fb∉blk (.slice ha hl.length hc):=fun hm=>by have:=(hlo fb hm).1;omega
      have hsW:=HO4.out.size;have HH7:Hid (OwI w2.heap.size w7 (.slice (some ⟨g4,0,none⟩) (hl.length+1) c4) (hl++[-1-y])):=Lib.hid (OwI.of (Built.ofC hown') (by omega) (fun y hy=>(List.mem_append.1 hy).elim (HH4.out.2.2 y) (fun hy=>by simp at hy;rw[hy];unfold inI;omega)));have HO7:Hid (OnlyAt [cb,fb] w2 w7):=Lib.hid (HO4.out.above ko (fun b hb=>(hlo b hb).1));have HD7:=Lib.hid (HD4.out.only ko (fun b hb=>by have:=(hlo b hb).1;omega));have z0:=ko.cell hnf q0;have Z1:=Lib.hid (ko.cell hnf q1);have z2:=ko.frozen (by omega) hnf G0.out;have Z2:=Lib.hid z2;have Z3:=Lib.hid (ko.frozen (by omega) hnf G1.out:w7.frozen? ⟨fb,1,none⟩=false);have Z0:=Lib.hid z0;clear hown' ko hbl7 q0 q1 hnf hlo HBT;go_wp2_with fail
      have kst:=OnlyAt.setCell w7 fb 0 (.slice (some ⟨g4,0,none⟩) (hl.length+1) c4);refine⟨⟨k-1,_,hl++[-1-y],by rw[show ((k:Int)-1)=((k-1:Nat):Int) from by omega],by simp;omega,Lib.hid (HH7.out.only kst (fun b hb hm=>by have:=HH7.out.lo b hb;simp at hm;omega)),Lib.hid ⟨World.cell?_setCell_same _ _ _ Z0.out,?_,by rw[World.frozen?_setCell];exact Z2.out,by rw[World.frozen?_setCell];exact Z3.out⟩,Lib.hid (HO7.out.same (kst.wider (by simp))),Lib.hid (HD7.out.only kst (fun b hb=>by simp at hb;omega))⟩,by simp[intOf];omega⟩;rw[World.cell?_setCell_other _ _ _ _ (by intro e;cases e)];exact Z1.out
     ·have hvz':(0:Int)<vn:=by omega
      go_wp2_with fail
      refine (hon.out 8 _ HD4.out.st (by omega) (by omega)).mono ?_;rintro e w5 ⟨bb,rfl,hcur,hg⟩;have ko:=grownBy_only hg;have HD5:=Lib.hid (HD4.out.draw hcur hg);have HO5:Hid (OnlyAt [cb,fb] w2 w5):=Lib.hid (HO4.out.same (ko.wider (by simp)));have HH5:=Lib.hid (HH4.out.only ko (fun b hb hm=>by have:=HH4.out.lo b hb;simp at hm;omega));have hs4:=HO4.out.size;replace q0:=ko.cell (by simpa using n5) q0;replace q1:=ko.cell (by simpa using n5) q1;have G05:=Lib.hid (ko.frozen (by omega) (by simpa using n5) G0.out:w5.frozen? ⟨fb,0,none⟩=false);have G15:=Lib.hid (ko.frozen (by omega) (by simpa using n5) G1.out:w5.frozen? ⟨fb,1,none⟩=false);clear hcur hg ko
      cases bb with
      |true=>
       obtain⟨Wh,hWh,hbt⟩:=HH5.out.built;have HBT:=Lib.hid hbt;clear hbt;go_wp2_with (at_builtin;refine wpList_app1D rfl (.tmp 55) (.tmp 57) 24 rfl 3 (.int .i64 0) 1 8 Tryz.underlying24 info_intD (by decide) (by decide) (by rfl) (.slice ha hl.length hc) hl.length (hl.map (Value.int .i64)) rfl HBT.out [.int .i64 (-1-y)] rfl (by simp[Value.oneCell']) (by first|rfl|(simp;rfl)) (by omega) ?_)
       intro v' w7 hown' ko hbl7;rcases hown'.form with⟨_,h0⟩|⟨g4,c4,rfl,_,_⟩
       ·omega
       have hlo:=HH5.out.lo;have hnf:fb∉blk (.slice ha hl.length hc):=fun hm=>by have:=(hlo fb hm).1;omega
       have hsW:=HO5.out.size;have HH7:Hid (OwI w2.heap.size w7 (.slice (some ⟨g4,0,none⟩) (hl.length+1) c4) (hl++[-1-y])):=Lib.hid (OwI.of (Built.ofC hown') (by omega) (fun y hy=>(List.mem_append.1 hy).elim (HH5.out.2.2 y) (fun hy=>by simp at hy;rw[hy];unfold inI;omega)));have HO7:Hid (OnlyAt [cb,fb] w2 w7):=Lib.hid (HO5.out.above ko (fun b hb=>(hlo b hb).1));have HD7:=Lib.hid (HD5.out.only ko (fun b hb=>by have:=(hlo b hb).1;omega));have z0:=ko.cell hnf q0;have Z1:=Lib.hid (ko.cell hnf q1);have z2:=ko.frozen (by omega) hnf G05.out;have Z2:=Lib.hid z2;have Z3:=Lib.hid (ko.frozen (by omega) hnf G15.out:w7.frozen? ⟨fb,1,none⟩=false);have Z0:=Lib.hid z0;clear hown' ko hbl7 q0 q1 hnf hlo HBT;go_wp2_with fail
       have kst:=OnlyAt.setCell w7 fb 0 (.slice (some ⟨g4,0,none⟩) (hl.length+1) c4);refine⟨⟨k-1,_,hl++[-1-y],by rw[show ((k:Int)-1)=((k-1:Nat):Int) from by omega],by simp;omega,Lib.hid (HH7.out.only kst (fun b hb hm=>by have:=HH7.out.lo b hb;simp at hm;omega)),Lib.hid ⟨World.cell?_setCell_same _ _ _ Z0.out,?_,by rw[World.frozen?_setCell];exact Z2.out,by rw[World.frozen?_setCell];exact Z3.out⟩,Lib.hid (HO7.out.same (kst.wider (by simp))),Lib.hid (HD7.out.only kst (fun b hb=>by simp at hb;omega))⟩,by simp[intOf];omega⟩;rw[World.cell?_setCell_other _ _ _ _ (by intro e;cases e)];exact Z1.out
      |false=>
       go_wp2_with fail
       refine (hbl.out vn _ HD5.out.st (by omega) (by omega)).mono ?_;rintro e w6 ⟨z,hz0,hz1,rfl,hcur,hg⟩;have ko:=grownBy_only hg;have HD6:=Lib.hid (HD5.out.draw hcur hg);have HO6:Hid (OnlyAt [cb,fb] w2 w6):=Lib.hid (HO5.out.same (ko.wider (by simp)));have HH6:=Lib.hid (HH5.out.only ko (fun b hb hm=>by have:=HH5.out.lo b hb;simp at hm;omega));have hs5:=HO5.out.size;replace q0:=ko.cell (by simpa using n5) q0;replace q1:=ko.cell (by simpa using n5) q1;have G06:=Lib.hid (ko.frozen (by omega) (by simpa using n5) G05.out:w6.frozen? ⟨fb,0,none⟩=false);have G16:=Lib.hid (ko.frozen (by omega) (by simpa using n5) G15.out:w6.frozen? ⟨fb,1,none⟩=false);have hvi:=(HVO.out.onlyAt HO6.out (fun b hb hm=>by have:=HVF.out b hb;simp at hm;omega)).1;obtain⟨_,_,_,e',_,_,_,hcell⟩:=hvi.cases
       cases e';obtain⟨gb,go,rfl,_,hcc⟩:=hcell (by omega);obtain⟨z,rfl⟩:=Int.eq_ofNat_of_zero_le hz0;have cz:=hcc z (by omega);have hti:=inI_getD hvi.1 z;unfold inI at hti;have hz2:(z:Int)<vn:=by omega
       generalize (bodyVars (([],bl):QueryD).2).getD z 0=t at *;clear hcur hg ko hvi hcell hcc;obtain⟨Wh,hWh,hbt⟩:=HH6.out.built;have HBT:=Lib.hid hbt;clear hbt;go_wp2_with (at_builtin;refine wpList_app1D rfl (.tmp 55) (.tmp 57) 24 rfl 3 (.int .i64 0) 1 8 Tryz.underlying24 info_intD (by decide) (by decide) (by rfl) (.slice ha hl.length hc) hl.length (hl.map (Value.int .i64)) rfl HBT.out [.int .i64 (t)] rfl (by simp[Value.oneCell']) (by first|rfl|(simp;rfl)) (by omega) ?_)
       intro v' w7 hown' ko hbl7;rcases hown'.form with⟨_,h0⟩|⟨g4,c4,rfl,_,_⟩
       ·omega
       have hlo:=HH6.out.lo;have hnf:fb∉blk (.slice ha hl.length hc):=fun hm=>by have:=(hlo fb hm).1;omega
       have hsW:=HO6.out.size;have HH7:Hid (OwI w2.heap.size w7 (.slice (some ⟨g4,0,none⟩) (hl.length+1) c4) (hl++[t])):=Lib.hid (OwI.of (Built.ofC hown') (by omega) (fun y hy=>(List.mem_append.1 hy).elim (HH6.out.2.2 y) (fun hy=>by simp at hy;rw[hy];unfold inI;omega)));have HO7:Hid (OnlyAt [cb,fb] w2 w7):=Lib.hid (HO6.out.above ko (fun b hb=>(hlo b hb).1));have HD7:=Lib.hid (HD6.out.only ko (fun b hb=>by have:=(hlo b hb).1;omega));have z0:=ko.cell hnf q0;have Z1:=Lib.hid (ko.cell hnf q1);have z2:=ko.frozen (by omega) hnf G06.out;have Z2:=Lib.hid z2;have Z3:=Lib.hid (ko.frozen (by omega) hnf G16.out:w7.frozen? ⟨fb,1,none⟩=false);have Z0:=Lib.hid z0;clear hown' ko hbl7 q0 q1 hnf hlo HBT;go_wp2_with fail
       have kst:=OnlyAt.setCell w7 fb 0 (.slice (some ⟨g4,0,none⟩) (hl.length+1) c4);refine⟨⟨k-1,_,hl++[t],by rw[show ((k:Int)-1)=((k-1:Nat):Int) from by omega],by simp;omega,Lib.hid (HH7.out.only kst (fun b hb hm=>by have:=HH7.out.lo b hb;simp at hm;omega)),Lib.hid ⟨World.cell?_setCell_same _ _ _ Z0.out,?_,by rw[World.frozen?_setCell];exact Z2.out,by rw[World.frozen?_setCell];exact Z3.out⟩,Lib.hid (HO7.out.same (kst.wider (by simp))),Lib.hid (HD7.out.only kst (fun b hb=>by simp at hb;omega))⟩,by simp[intOf];omega⟩;rw[World.cell?_setCell_other _ _ _ _ (by intro e;cases e)];exact Z1.out
    ·obtain rfl:k=0:=by omega
     have HRB:=Lib.hid (HO.out.trans (OnlyAt.refl [] wq));have hO3:=HO2.out.same (HO.out.down (w:=w2) (bs':=[cb,fb]) (fun x hx=>.inl hx));have hrow:wq.heap[rb]?=some (.cells #[.slice none 0 0,.slice none 0 0] 29 (0,0)):=by rw[hO3.block rb l3 (by simp[n3,n4])];exact KR.out
     have kr0:wq.cell? ⟨rb,0,none⟩=some (.slice none 0 0):=by rw[cell_of_row wq rb 0 _ _ _ hrow];rfl
     have kr1:wq.cell? ⟨rb,1,none⟩=some (.slice none 0 0):=by rw[cell_of_row wq rb 1 _ _ _ hrow];rfl
     have fr0:=frozen_of_row wq rb 0 _ _ hrow;have fr1:=frozen_of_row wq rb 1 _ _ hrow;have HA3:=Lib.hid (HA2.out.only (base':=w.heap.size) l6 HO.out (fun b hb=>by simp at hb;omega));clear hrow hO3 HRB;go_wp2_with fail
     have hk:OnlyAt [rb] wq ((wq.setCell ⟨rb,0,none⟩ (.slice ha hl.length hc)).setCell ⟨rb,1,none⟩ (.slice ba bl.length bc)):=(OnlyAt.setCell wq _ _ _).same (OnlyAt.setCell _ _ _ _);refine bodyPost_ret (v:=.agg #[.slice ha hl.length hc,.slice ba bl.length bc]) (by simp[results,Tryz.results100,go_sem,kr0,kr1]) rfl ?_;refine⟨_,_,(hl,bl),w2.heap.size,rfl,HH.out.only hk (fun b hb hm=>by have:=HH.out.lo b hb;simp at hm;omega),?_,by omega,Nat.le_trans hso hk.size,⟨by show hl.length≤2;omega,by show bl.length≤3;omega,HB4.out⟩,HD.out.only hk (fun b hm=>by simp at hm;omega),hbl1⟩;have hAl:=HA2.out.only (base':=W3.heap.size) (Nat.le_refl _) (HO.out.same (OnlyAt.refl _ wq)) (fun b hb=>by simp at hb;omega);exact hAl.only l6 hk (fun b hb=>by simp at hb;omega)
theorem l4Query_any (w:World) (S:Value) (len cb:Nat) (base:Nat) (sv:Value) (s:List Int) (h:St w S len cb) (hv:OwI base w sv s) (hcb:cb<base) (hs:SBd s) :
  Calls Tryz.prog 100 #[.pointer (some ⟨cb,0,none⟩),.agg #[sv]] w (DrewQ 2 3 w S len cb):=
 (l4Query_any1 w S len cb base sv s h hv hcb hs).mono fun e w' ⟨hv,bv,d,T,h1,h2,h3,h4,h5,h6,h7,_⟩=>⟨hv,bv,d,T,h1,h2,h3,h4,h5,h6,h7⟩
theorem l2Any_any (w:World) (S:Value) (len cb:Nat) (h:St w S len cb) :
  Calls Tryz.prog 103 #[.pointer (some ⟨cb,0,none⟩)] w (DrawnI w S len cb):=by
 have hon:=Lib.hid (fun n w h h0 h1=>l1Once_any n w S len cb h h0 h1);have htm:=Lib.hid (fun w h=>l2Term_any w S len cb h);have hpi:=Lib.hid (fun g n xs w h hn0 hn1 hg hx hc hr=>l1PickInt_any g n xs w S len cb h hn0 hn1 hg hx hc hr);have HS:=Lib.hid h;clear h;go_enter Tryz.func103,Tryz.ntmps103
 go_wp2_with fail
 refine (hon.out 6 _ HS.out (by omega) (by omega)).mono ?_;rintro e w1 ⟨b,rfl,hcur,hg⟩;have HS1:=Lib.hid (HS.out.next hcur hg);have HG1:=Lib.hid hg;clear hcur hg
 cases b with
 |true=>
  have hcb:=HS1.out.cb_lt;go_wp2_with fail
  refine (hpi.out _ 6 [19,20,-80,-81,-1,99] _ (HS1.out.alloc _) (by omega) (by omega) (by omega) rfl (heap_alloc_new _ _) (by intro x hx;simp at hx;omega)).mono ?_;rintro e w2 ⟨x,hx0,hx1,rfl,hcur,hg⟩;have HC:=Lib.hid hcur;have HG:=Lib.hid (grownBy_trans (grownBy_trans HG1.out (World.grownBy_alloc w1 (.cells #[.int .i64 19,.int .i64 20,.int .i64 (-80),.int .i64 (-81),.int .i64 (-1),.int .i64 99] 3) (some cb))) hg);clear hcur hg;go_wp2_with fail
  go_ret;exact⟨x,hx0,hx1,rfl,HC.out,HG.out⟩
 |false=>
  go_wp2_with fail
  refine (htm.out _ HS1.out).mono ?_;rintro e w2 ⟨x,hx0,hx1,rfl,hcur,hg⟩;have HC:=Lib.hid hcur;have HG:=Lib.hid (grownBy_trans HG1.out hg);clear hcur hg;go_wp2_with fail
  go_ret;exact⟨x,by omega,by omega,rfl,HC.out,HG.out⟩
theorem DAt.ready {B T:Nat} {w4 w5:World} {v:Value} {l:List AtomD} {S:Value} {len cb:Nat} (h:DAt B T w4 v l) (hlt:cb<B) (hd:DSt w4 w5 S len cb) :
  ∃W bss cs,W.heap.size=B∧OutInv 83 W w5 v l bss∧BuiltC 83 2 W w5 v l.length cs∧Els w5 cs l bss∧(∀b∈blk v,B≤b∧b<w4.heap.size)∧(∀b∈bss.flatten,b<w4.heap.size)∧B≤w4.heap.size∧(∀b,b∈blk v∨b∈bss.flatten→b<T):=by
 obtain⟨W,bss,hW,ho,hT⟩:=h;have hs:=hd.size;have h1:=ho.below.size;obtain⟨W',hW',hb'⟩:=virt w5 B (by omega);have ho5:=ho.rebase (W':=W') (by omega) hb' hd.2.1 (fun b hb hm=>by simp at hm;have:=(ho.blk_lo b hb).1;omega) (fun b hb hm=>by simp at hm;have:=(ho.2.2 b hb).1;omega);obtain⟨cs,c1,c2⟩:=ho5.parts;exact⟨W',bss,cs,hW',ho5,c1,c2,fun b hb=>by have:=ho.blk_lo b hb;omega,fun b hb=>(ho.2.2 b hb).2,by omega,hT⟩
theorem OutInv.app8 {base:Nat} {W w w3:World} {v v':Value} {l:List AtomD} {cs:List Value} {bss:List (List Nat)} {r:Int} {a:Option Addr} {n c:Nat} {li:List Int}
  (h:OutInv 83 W w v l bss) (h1:BuiltC 83 2 W w v l.length cs) (h2:Els w cs l bss) (ho:OwI base w (.slice a n c) li) (hv:∀b∈blk v,b<base) (hl:∀b∈bss.flatten,b<base) (hr:inI r)
  (h':BuiltC 83 2 W w3 v' (l.length+1) (cs++[.int .i64 r,.slice a n c])) (ko:OnlyAt (blk v) w w3) (hv':∀b∈blk v',b∈blk v∨w.heap.size≤b) (hB:W.heap.size≤base):∃bs,OutInv 83 W w3 v' (l++[(r,li)]) (bss++[bs])∧∀b∈bs,base≤b:=by
 obtain⟨bs,ho1,ho2,ho3⟩:=ho.owns;obtain⟨_,h6,h7⟩:=h;have hs3:=ko.size;rw[List.nodup_append] at h6;obtain⟨n1,n2,n3⟩:=h6;have hbx:∀b∈bs,b∉blk v:=fun b hb hx=>by have:=hv b hx;have:=ho3 b hb;omega
 have hn:∀b∈bss.flatten,b∉blk v:=fun b hb hx=>n3 b hx b hb rfl
 have e:(bss++[bs]).flatten=bss.flatten++bs:=by simp
 refine⟨bs,⟨BuiltA.app h1 h2 h' ko hn hr ho1 hbx,?_,?_⟩,fun b hb=>(ho3 b hb).1⟩
 ·rw[e,List.nodup_append,List.nodup_append];refine⟨?_,⟨n2,ho2,fun x hx y hy e=>?_⟩,fun x hx y hy e=>?_⟩
  ·rcases h'.form with⟨rfl,_⟩|⟨g,cap,rfl,_,_⟩<;>simp[blk]
  ·have:=hl x hx;have:=ho3 y hy;omega
  ·subst e;rcases hv' x hx with hx|hx
   ·rcases List.mem_append.1 hy with hy|hy
    ·exact n3 x hx x hy rfl
    ·exact hbx x hy hx
   ·rcases List.mem_append.1 hy with hy|hy
    ·have:=(h7 x hy).2;omega
    ·have:=(ho3 x hy).2;omega
 ·intro b hb;rw[e] at hb;rcases List.mem_append.1 hb with hb|hb
  ·have:=h7 b hb;omega
  ·have:=ho3 b hb;omega
theorem DSt.belowN {w w1 w2:World} {S:Value} {len cb:Nat} (hb:Below w.heap.size w w1) (hd:DSt w1 w2 S len cb) (hc:w.heap.size≤cb):Below w.heap.size w w2:=
 OnlyAt.below hb hd.2.1 (fun x hx=>by simp at hx;omega)
end Go.Proofs.YtpedpbbiamhgdaaGreatDoor
