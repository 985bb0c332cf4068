import Derived.Test.YtpedpbbiamhgdaaGreatDoorS13a
import Derived.Test.YtpedpbbiamhgdaaGreatDoorI9x
namespace Go.Proofs.YtpedpbbiamhgdaaGreatDoor
open Go Go.Sort Go.RowKit
set_option linter.unusedVariables false
set_option linter.unusedSimpArgs false
theorem OInts.set13 {w:World} {b off n c:Nat} {l:List Int} {bs:List Nat} (h:OInts w (.slice (some ⟨b,off,none⟩) n c) l bs) {j:Nat} (hj:j<n) {y:Int} (hy:inI y):OInts (w.setCell ⟨b,off+j,none⟩ (.int .i64 y)) (.slice (some ⟨b,off,none⟩) n c) (l.set j y) bs:=by
 obtain⟨⟨hin,hrep⟩,hown⟩:=h;refine⟨⟨fun x hx=>?_,?_⟩,?_⟩
 ·rcases List.mem_or_eq_of_mem_set hx with h|h
  ·exact hin x h
  ·subst h;exact hy
 ·rcases hrep with⟨a,cap,e,_,rfl⟩|⟨b',off',len,cap,e,hl,h1,h2,hlt,hc⟩
  ·cases e;omega
  ·cases e;refine .inr ⟨b,off,n,c,rfl,by simpa using hl,h1,h2,by simpa[World.setCell] using hlt,fun i hi=>?_⟩;by_cases he:i=j
   ·subst he;rw[World.cell?_setCell_same _ _ _ (hc i hi)]
    congr 2
    rw[List.getD_eq_getElem?_getD,List.getElem?_set_self (by omega)];rfl
   ·rw[World.cell?_setCell_other _ _ _ _ (by intro e;simp at e<;>omega),hc i hi]
    congr 2
    rw[List.getD_eq_getElem?_getD,List.getD_eq_getElem?_getD,List.getElem?_set_ne (Ne.symm he)]
 ·rcases hown with⟨a,c',e,rfl⟩|⟨b',off',n',c',e,hn,rfl,hf⟩
  ·cases e;omega
  ·cases e;exact .inr ⟨b,off,n,c,rfl,hn,rfl,fun i hi=>by rw[World.frozen?_setCell];exact hf i hi⟩
set_option maxRecDepth 100000 in
set_option maxHeartbeats 4000000 in
theorem iReplaceIn_any (w:World) (v:Value) (l:List Int) (bs:List Nat) (t y:Int) (h:OInts w v l bs) (hy:inI y) (hz:l.length≤1048576) :
  Calls Tryz.prog 140 #[v,.int .i64 t,.int .i64 y] w (fun e w'=>e=.returned (.tuple #[])∧OInts w' v (swapL l t y) bs∧OnlyAt bs w w'):=by
 have HO:=Lib.hid h;have HZ:=Lib.hid hz;have HY:=Lib.hid hy;obtain⟨a,n,c,rfl⟩:=h.1.shape
 have HN:Hid (l.length=n):=by
  rcases h.1.2 with⟨a,cap,e,_,rfl⟩|⟨b',off',len,cap,e,hl,h1,h2,hlt,hc⟩
  ·cases e;rfl
  ·cases e;exact hl
 have hnz:n≤1048576:=by rw[←HN.out];exact hz
 clear h hz hy;go_enter Tryz.func140,Tryz.ntmps140
 go_wp2_with fail
 go_loopw [10] (fun iv wr=>∃i:Nat,i≤n∧iv=.int .i64 i∧OInts wr (.slice a n c) (swapTo l t y i) bs∧OnlyAt bs w wr) (fun iv _=>n-(intOf iv).toNat)
 case atStart=>exact⟨0,by omega,rfl,by simpa[swapTo,swapL] using HO.out,OnlyAt.refl _ _⟩
 case round=>
  obtain⟨i,hi,rfl,hB,hK⟩:=hrel;have hlen:(swapTo l t y i).length=n:=by rw[swapTo_len _ _ _ _ (by rw[HN.out];exact hi),HN.out]
  have HB:=Lib.hid hB;have HK:=Lib.hid hK;by_cases hlt:i<n
  ·have hil:i<l.length:=by rw[HN.out];exact hlt
   obtain⟨b,off,rfl,hbs⟩:∃b off,a=some ⟨b,off,none⟩∧bs=[b]:=by
    rcases hB.2 with⟨a',c',e,_⟩|⟨b,off,n',c',e,_,e2,_⟩
    ·cases e;omega
    ·cases e;exact⟨b,off,rfl,e2⟩
   have c1:wr.cell? ⟨b,off+i,none⟩=some (.int .i64 (l.getD i 0)):=by
    rcases hB.1.2 with⟨a',cap,e,_,_⟩|⟨b',off',len,cap,e,_,_,_,_,hc⟩
    ·cases e;omega
    ·cases e;rw[hc i hlt,swapTo_at hil]
   have f1:wr.frozen? ⟨b,off+i,none⟩=false:=by
    rcases hB.2 with⟨a',c',e,_⟩|⟨b',off',n',c',e,_,_,hf⟩
    ·cases e;omega
    ·cases e;exact hf i hlt
   have HST:=Lib.hid (OInts.set13 hB hlt HY.out);have HKS:=Lib.hid (hK.same (by rw[hbs];exact OnlyAt.setCell wr b (off+i) (.int .i64 y)));have HS1:=Lib.hid (swapTo_set (l:=l) (t:=t) (u:=y) hil);have HS2:Hid (l.getD i 0≠t→swapTo l t y i=swapTo l t y (i+1)):=fun h=>swapTo_same hil h
   have hi0:(0:Int)≤i:=by omega
   have hi1:(i:Int)<n:=by omega
   clear hB hK hlen hil hbs;generalize l.getD i 0=x at *;by_cases hx:x=t
   ·have HS3:Hid ((swapTo l t y i).set i y=swapTo l t y (i+1)):=by have:=HS1.out;rwa [if_pos hx] at this
    subst hx;clear HS1 HS2;go_wp2_with fail
    exact⟨⟨i+1,by omega,by simp,by rw[←HS3.out];exact HST.out,HKS.out⟩,by simp[intOf];omega⟩
   ·have HS3:=Lib.hid (HS2.out hx);have q:(x==t)=false:=beq_eq_false_iff_ne.2 hx;clear HS1 HS2 hx;go_wp2_with fail
    exact⟨⟨i+1,by omega,by simp,by rw[←HS3.out];exact HB.out,HK.out⟩,by simp[intOf];omega⟩
  ·obtain rfl:i=n:=by omega
   have e:swapTo l t y i=swapL l t y:=by unfold swapTo;rw[List.take_of_length_le (by rw[HN.out];exact Nat.le_refl _),List.drop_eq_nil_of_le (by rw[HN.out];exact Nat.le_refl _),List.append_nil]
   have HE:=Lib.hid e;clear hlen hB hK e;go_wp2_with fail
   rw[←HE.out];exact⟨rfl,.tuple #[],(by simp[results,Tryz.results140,go_sem]),rfl,HB.out,HK.out⟩
theorem swpA_len (d:List AtomD) (t u:Int) (i:Nat):(((d.take i).map (swpA t u))++d.drop i).length=d.length:=by
 rw[List.length_append,List.length_map,List.length_take,List.length_drop];omega
theorem swpA_at {d:List AtomD} {t u:Int} {i:Nat} (h:i<d.length):(((d.take i).map (swpA t u))++d.drop i)[i]?=d[i]?:=by
 rw[List.getElem?_append_right (by rw[List.length_map,List.length_take];omega),List.length_map,List.length_take,Nat.min_eq_left (by omega),Nat.sub_self,List.getElem?_drop,Nat.add_zero]
theorem swpA_set {d:List AtomD} {t u:Int} {i:Nat} {x:AtomD} (h:d[i]?=some x):(((d.take i).map (swpA t u))++d.drop i).set i (swpA t u x)=((d.take (i+1)).map (swpA t u))++d.drop (i+1):=by
 obtain⟨hi,rfl⟩:=List.getElem?_eq_some_iff.1 h;rw[List.set_append_right _ _ (by rw[List.length_map,List.length_take];omega),List.length_map,List.length_take,Nat.min_eq_left (by omega),Nat.sub_self,List.drop_eq_getElem_cons hi,List.set_cons_zero,List.take_succ_eq_append_getElem hi,List.map_append,List.append_assoc];rfl
theorem set_same13 {bss:List (List Nat)} {i:Nat} (h:i<bss.length):bss.set i (bss.getD i [])=bss:=by
 refine List.ext_getElem (by simp) (fun j h1 h2=>?_);rw[List.getElem_set]
 split
 ·rename_i e;subst e;rw[List.getD_eq_getElem?_getD,List.getElem?_eq_getElem h];rfl
 ·rfl
theorem RowO.row13 {w w':World} {b off:Nat} {l:List AtomD} {bss:List (List Nat)} {i:Nat} {x:AtomD} {a:Option Addr} {n c:Nat} {li:List Int} (h:RowO 2 COAtom w b off l bss) (hx:l[i]?=some x) (c0:w.cell? ⟨b,off+i*2,none⟩=some (.int .i64 x.1)) (c1:w.cell? ⟨b,off+i*2+1,none⟩=some (.slice a n c)) (hi:inI x.1)
  (hnd:(b::bss.flatten).Nodup) (ho:OInts w' (.slice a n c) li (bss.getD i [])) (hk:OnlyAt (bss.getD i []) w w'):RowO 2 COAtom w' b off (l.set i (x.1,li)) bss:=by
 have hil:i<l.length:=(List.getElem?_eq_some_iff.1 hx).1;have hl:=h.1;have hb:=h.2.1;have hbn:b∉bss.getD i []:=fun e=>by rw[List.nodup_cons] at hnd;exact hnd.1 (getD_mem_flatten e)
 have hblk:=hk.block b hb hbn;have e:=set_same13 (bss:=bss) (i:=i) (by omega);rw[←e];have:=RowO.upd (w':=w') h hk.size i hil (x.1,li) (bss.getD i []) [.int .i64 x.1,.slice a n c] (fun t _=>World.frozen?_of_block (w:=w) hblk) (fun t _=>World.cell?_of_block (w:=w) hblk) rfl (fun e he=>?_) ⟨a,n,c,rfl,hi,ho⟩ (fun j cs d hj hd hc=>COAtom.onlyAt (fun b' h1 h2=>?_) hk hc)
 ·rw[e] at this ⊢;exact this
 ·rw[World.cell?_of_block (w:=w) hblk]
  match e,he with
  |0,_=>simpa using c0
  |1,_=>rw[←Nat.add_assoc];simpa using c1
 ·rw[List.nodup_cons] at hnd;exact nodup_apart hnd.2 hj h1 h2
set_option maxRecDepth 100000 in
set_option maxHeartbeats 8000000 in
theorem iReplace_any (w:World) (v:Value) (d:QueryD) (tx ux:Int) (h:RdQuery w v d) (hux:inI ux) (hz:sizeQuery d≤1048576) :
  Calls Tryz.prog 89 #[v,.int .i64 tx,.int .i64 ux] w (GaveO (fun w' v' bs=>ROQuery w' v' (swpQ d tx ux) bs) w):=by
 obtain⟨a0,n0,c0,a,n,c,rfl,hi,ha⟩:=h;have hn:=ha.at.1;have hbw:∀a b,Below w.heap.size w ((w.alloc a).alloc b):=fun a b=>((Below.refl _ _).alloc (Nat.le_refl _) _).alloc (by simp) _
 have hzz:d.1.length+sizeAtomS d.2≤1048576:=hz;have HNQ:=Lib.hid (fun W (hb:Below w.heap.size w W)=>iNewQuery_any W (.slice a0 n0 c0) (.slice a n c) d.1 d.2 (hi.below hb) ⟨a,n,c,rfl,RdSl.below ha (fun _ _ h=>h.below hb) hb⟩ hzz);have HT:=Lib.hid (fun w v l bs h hz=>iReplaceIn_any w v l bs tx ux h hux hz);have HZ:=Lib.hid hzz;clear ha hi hz hzz hn hux;go_enter Tryz.func89,Tryz.ntmps89
 go_wp2_with fail
 refine (HNQ.out _ (hbw _ _)).mono ?_;rintro e W1 ⟨v1,bs,rfl,hro,hfr,hb⟩;have hbs:∀x∈bs,w.heap.size+2≤x∧x<W1.heap.size:=fun x hx=>by have:=hfr.2 x hx;simp at this;omega
 have hnd:=hfr.1;have kr0:=cellk hb (b:=w.heap.size+1) (o:=0) (v:=.slice none 0 0) (by simp);have kr1:=cellk hb (b:=w.heap.size+1) (o:=1) (v:=.slice none 0 0) (by simp);have kf0:W1.frozen? ⟨w.heap.size+1,0,none⟩=false:=frok hb (v:=.slice none 0 0) (by simp) (by simp);have kf1:W1.frozen? ⟨w.heap.size+1,1,none⟩=false:=frok hb (v:=.slice none 0 0) (by simp) (by simp);have hsz:w.heap.size+2≤W1.heap.size:=by have:=hb.size;simp at this;omega
 have hbW:=bnext (hbw _ _) hb;obtain⟨ha,hn,hc,ba,bn,bc,rfl,b1,b2,hoh,hob,rfl⟩:=hro;obtain⟨W3,hW3⟩:∃x,x=W1.alloc (.cells #[.slice ha hn hc,.slice ba bn bc] 29):=⟨_,rfl⟩
 have hb3:Below W1.heap.size W1 W3:=by rw[hW3];exact below_alloc _ _
 obtain⟨q7,hq7⟩:∃x,x=W1.heap.size:=⟨_,rfl⟩
 obtain⟨rb,hrb⟩:∃x,x=w.heap.size+1:=⟨_,rfl⟩
 have e0:W3.cell? ⟨q7,0,none⟩=some (.slice ha hn hc):=by rw[hW3,hq7];simp
 have e1:W3.cell? ⟨q7,1,none⟩=some (.slice ba bn bc):=by rw[hW3,hq7];simp
 rw[←hrb] at kr0 kr1 kf0 kf1;replace kf0:=frok hb3 kr0 kf0;replace kf1:=frok hb3 kr1 kf1;replace kr0:=cellk hb3 kr0;replace kr1:=cellk hb3 kr1;have HOH:=Lib.hid (hoh.below hb3);have HOB:=Lib.hid (ROSl.below hob hb3 (fun _ _ _ h=>h.below hb3));have HB3:=Lib.hid (bnext hbW hb3);have HNQ7:Hid (q7∉b1++b2):=fun e=>by have:=(hbs q7 e).2;omega
 have HNRB:Hid (rb∉b1++b2):=fun e=>by have:=(hbs rb e).1;omega
 have HLO:Hid (∀x∈b1++b2,w.heap.size≤x):=fun x hx=>by have:=(hbs x hx).1;omega
 have HHI:Hid (∀x∈b1++b2,x<W3.heap.size):=fun x hx=>by have:=(hbs x hx).2;have:=hb3.size;omega
 have HND:=Lib.hid hnd;have HRB:Hid (w.heap.size≤rb):=by show _≤_;omega
 have HW:=Lib.hid hW3;have HQ:=Lib.hid hq7;have HR:=Lib.hid hrb
 have HK3:Hid (∀wr,OnlyAt (b1++b2) W3 wr→wr.cell? ⟨q7,0,none⟩=some (.slice ha hn hc)∧wr.cell? ⟨q7,1,none⟩=some (.slice ba bn bc)∧wr.cell? ⟨rb,0,none⟩=some (.slice none 0 0)∧wr.cell? ⟨rb,1,none⟩=some (.slice none 0 0)∧wr.frozen? ⟨rb,0,none⟩=false∧wr.frozen? ⟨rb,1,none⟩=false):=fun wr h=>
  ⟨h.cell HNQ7.out e0,h.cell HNQ7.out e1,h.cell HNRB.out kr0,h.cell HNRB.out kr1,h.frozen (World.block_lt_of_cell? _ _ kr0) HNRB.out kf0,h.frozen (World.block_lt_of_cell? _ _ kr1) HNRB.out kf1⟩
 clear hb hbs hnd hbW hoh hob hb3 hW3 hq7 hrb hfr kf0 kf1 kr0 kr1 e0 e1 hsz hbw;go_wp2_with fail
 rw[←HR.out,←HW.out,←HQ.out];clear HR HQ HW;have HSP:Hid (∀x∈b1,x∉b2):=fun x hx hy=>(List.nodup_append.1 HND.out).2.2 x hx x hy rfl
 have hhz:d.1.length≤1048576:=by have:=HZ.out;omega
 refine (HT.out _ _ _ _ HOH.out hhz).mono ?_;rintro e w4 ⟨rfl,hoh,hk⟩;have HOH4:=Lib.hid hoh;have HOB4:=Lib.hid (ROSl.onlyAt HOB.out hk (fun b h1 h2=>HSP.out b h2 h1) (fun _ _ _ hn h=>COAtom.onlyAt hn hk h));have HK4:=Lib.hid (hk.wider (bs':=b1++b2) (fun x hx=>List.mem_append_left _ hx));clear hk hoh HOH HOB hhz;obtain⟨x0,x1,x2,x3,x4,x5⟩:=HK3.out _ HK4.out;go_wp2_with fail
 have hbm:bn≤1048576∧d.2.length=bn:=by
  have:=HZ.out;rcases HOB4.out with⟨a',c',e,_,e2,_⟩|⟨_,_,_,_,_,e,hl,_⟩
  ·cases e;rw[e2];exact⟨Nat.zero_le _,rfl⟩
  ·cases e;unfold sizeAtomS at this;exact⟨by omega,hl⟩
 obtain⟨hbm,hbl⟩:=hbm;have HBL:=Lib.hid hbl;clear x0 x1 x2 x3 x4 x5 hbl
 go_loopw [23] (fun iv wr=>∃i:Nat,i≤bn∧iv=.int .i64 i∧OnlyAt (b1++b2) W3 wr∧OInts wr (.slice ha hn hc) (swapL d.1 tx ux) b1∧ROSl 2 COAtom wr (.slice ba bn bc) ((d.2.take i).map (swpA tx ux)++d.2.drop i) b2) (fun iv _=>bn-(intOf iv).toNat)
 case atStart=>exact⟨0,by omega,rfl,HK4.out,HOH4.out,by simpa using HOB4.out⟩
 case round=>
  obtain⟨i,hi,rfl,hk,hoh,hob⟩:=hrel;have HKI:=Lib.hid hk;have HOI:=Lib.hid hoh;have HBI:=Lib.hid hob;by_cases hlt:i<bn
  ·have hil:i<d.2.length:=by rw[HBL.out];exact hlt
   rcases hob with⟨a',c',e,_,e2,_⟩|⟨b,off,n',cap,bss,e,hl,hpos,hcap,hmax,hb2,hrow⟩
   ·cases e;omega
   ·cases e;obtain⟨x,hx⟩:∃x,d.2[i]?=some x:=⟨d.2[i],List.getElem?_eq_getElem hil⟩
    have hx':=swpA_at (t:=tx) (u:=ux) hil;rw[hx] at hx';obtain⟨cs,_,hcs,xa,xn,xc,rfl,hxi,hxo⟩:=hrow.2.2.2 i x hx';have c0:wr.cell? ⟨b,off+i*2,none⟩=some (.int .i64 x.1):=by have:=hcs 0 (by omega);simpa using this
    have c1:wr.cell? ⟨b,off+i*2+1,none⟩=some (.slice xa xn xc):=by have:=hcs 1 (by omega);rw[←Nat.add_assoc] at this;simpa using this
    have hxz:x.2.length≤1048576:=by
     have h5:=sumArgs_take hx;have h6:=sumArgs_le d.2 (i+1);have h7:=HZ.out;unfold sizeAtomS at h7;omega
    have hnd2:(b::bss.flatten).Nodup:=by rw[←hb2];exact (List.nodup_append.1 HND.out).2.1
    have hal:Below wr.heap.size wr (wr.alloc (.cells #[.int .i64 x.1,.slice xa xn xc] 83)):=below_alloc _ _;have HROW:=Lib.hid (hrow.keep hal.size (hal.block b hrow.2.1) (fun j cs d _ h=>h.below hal));have HXO:=Lib.hid (hxo.below hal);have HC0:=Lib.hid (cellk hal c0);have HC1:=Lib.hid (cellk hal c1);have HXI:=Lib.hid hxi;have HX:=Lib.hid hx';have HX2:=Lib.hid hx;have HND2:=Lib.hid hnd2;have HXZ:=Lib.hid hxz;have HB2:=Lib.hid hb2;have HAL:=Lib.hid hal;have HCAP:Hid (bn≤bc∧bc≤maxLen∧0<bn):=⟨hcap,hmax,hpos⟩;have hi0:(0:Int)≤i:=by omega
    have hi1:(i:Int)<bn:=by omega
    obtain⟨r,hr⟩:∃r,x.1=r:=⟨_,rfl⟩
    have HRX:=Lib.hid hr;rw[hr] at c0 hal;clear hk hoh hrow hcs hxo hxi hx hx' hnd2 hxz hb2 hal hcap hmax hpos hl hr;go_wp2_with fail
    rw[←HRX.out];clear c0 c1 HRX;refine (HT.out _ _ _ _ HXO.out HXZ.out).mono ?_;rintro e w5 ⟨rfl,ho,hk⟩;have hrow5:=RowO.row13 HROW.out HX.out HC0.out HC1.out HXI.out HND2.out ho hk;have hsub:∀y∈bss.getD i [],y∈b2:=fun y hy=>by rw[HB2.out];exact List.mem_cons_of_mem _ (getD_mem_flatten hy)
    have HR5:Hid (ROSl 2 COAtom w5 (.slice (some ⟨b,off,none⟩) bn bc) ((d.2.take (i+1)).map (swpA tx ux)++d.2.drop (i+1)) b2):=by
     refine .inr ⟨b,off,bn,bc,bss,rfl,?_,HCAP.out.2.2,HCAP.out.1,HCAP.out.2.1,HB2.out,?_⟩
     ·rw[swpA_len];exact HBL.out
     ·rw[←swpA_set HX2.out];exact hrow5
    have HO5:=Lib.hid ((HOI.out.below HAL.out).onlyAt hk (fun y h1 h2=>HSP.out y h1 (hsub y h2)));have HK5:=Lib.hid ((HKI.out.same (OnlyAt.ofBelow _ HAL.out)).same (hk.wider (bs':=b1++b2) (fun y hy=>List.mem_append_right _ (hsub y hy))));clear hk ho hrow5 hsub;go_wp2_with fail
    exact⟨⟨i+1,by omega,by simp,HK5.out,HO5.out,HR5.out⟩,by simp[intOf];omega⟩
  ·obtain rfl:i=bn:=by omega
   have HBD:Hid (ROSl 2 COAtom wr (.slice ba i bc) (d.2.map (swpA tx ux)) b2):=by
    have:=HBI.out
    rwa [List.take_of_length_le (by rw[HBL.out];exact Nat.le_refl _),List.drop_eq_nil_of_le (by rw[HBL.out];exact Nat.le_refl _),List.append_nil] at this
   obtain⟨x0,x1,x2,x3,x4,x5⟩:=HK3.out _ HKI.out;clear hk hoh hob;go_wp2_with fail
   have hk:OnlyAt [rb] wr ((wr.setCell ⟨rb,0,none⟩ (.slice ha hn hc)).setCell ⟨rb,1,none⟩ (.slice ba i bc)):=(OnlyAt.setCell wr _ _ _).same (OnlyAt.setCell _ _ _ _);refine bodyPost_ret (v:=.agg #[.slice ha hn hc,.slice ba i bc]) (by simp[results,Tryz.results89,go_sem,x2,x3]) rfl ⟨_,b1++b2,rfl,?_,⟨HND.out,fun y hy=>⟨HLO.out y hy,Nat.lt_of_lt_of_le (Nat.lt_of_lt_of_le (HHI.out y hy) HKI.out.size) hk.size⟩⟩,?_⟩
   ·have hno:∀y∈b1++b2,y∉[rb]:=fun y hy h2=>by rw[List.mem_singleton.1 h2] at hy;exact HNRB.out hy
    exact⟨_,_,_,_,_,_,rfl,b1,b2,HOI.out.onlyAt hk (fun y hy=>hno y (List.mem_append_left _ hy)),ROSl.onlyAt HBD.out hk (fun y hy=>hno y (List.mem_append_right _ hy)) (fun _ _ _ hn h=>COAtom.onlyAt hn hk h),rfl⟩
   ·exact OnlyAt.below (OnlyAt.below HB3.out HKI.out HLO.out) hk (fun y hy=>by rw[List.mem_singleton.1 hy];exact HRB.out)
end Go.Proofs.YtpedpbbiamhgdaaGreatDoor
