import Derived.Test.YtpedpbbiamhgdaaGreatDoorAtomK
import Derived.Test.YtpedpbbiamhgdaaGreatDoorSq4all
import Derived.Test.YtpedpbbiamhgdaaGreatDoorIrAll
import Derived.Deep.RegionLaw
namespace Go.Proofs.YtpedpbbiamhgdaaGreatDoor
open Go Go.Sort Go.RowKit
set_option linter.unusedVariables false
def rnOf (tl l:List Int) (i:Nat):List Int:=(l.take i).map (termTo tl)++List.replicate (l.length-i) 0
theorem rnOf_len (tl l:List Int) (i:Nat) (h:i≤l.length):(rnOf tl l i).length=l.length:=by unfold rnOf;simp;omega
theorem rnOf_set (tl l:List Int) (i:Nat) (h:i<l.length):(rnOf tl l i).set i (termTo tl (l.getD i 0))=rnOf tl l (i+1):=by
 unfold rnOf;have hg:l.getD i 0=l[i]:=by simp[List.getD,List.getElem?_eq_getElem h]
 rw[List.set_append_right _ _ (by simp;omega),List.length_map,List.length_take,Nat.min_eq_left (by omega),Nat.sub_self,hg,show l.length-i=(l.length-(i+1))+1 from by omega,List.replicate_succ,List.set_cons_zero,List.take_succ_eq_append_getElem h,List.map_append,List.append_assoc];rfl
theorem rnOf_all (tl l:List Int):rnOf tl l l.length=l.map (termTo tl):=by unfold rnOf;simp
theorem rnOf_zero (tl l:List Int):rnOf tl l 0=List.replicate l.length 0:=by unfold rnOf;simp
theorem termTo_in {tl:List Int} {t:Int} (h0:0≤t) (h1:t<tl.length):termTo tl t=tl.getD t.toNat 0:=by
 unfold termTo;rw[show inB t 0 ((tl.length:Int)-1)=true from decide_eq_true (by omega),if_pos rfl]
theorem termTo_out {tl:List Int} {t:Int} (h:t<0∨(tl.length:Int)≤t):termTo tl t=t:=by
 unfold termTo;rw[show inB t 0 ((tl.length:Int)-1)=false from decide_eq_false (by omega),if_neg (by simp)]
theorem set_set (l:List Int) (i:Nat) (x y:Int):(l.set i x).set i y=l.set i y:=by simp
set_option maxRecDepth 100000 in
set_option maxHeartbeats 4000000 in
theorem iRenTerms_any (w:World) (v vt:Value) (l tl:List Int) (h:Ints w v l) (ht:Ints w vt tl) (hz:l.length≤1048576) :
  Calls Tryz.prog 199 #[v,vt] w (GaveInts w (l.map (termTo tl))):=by
 obtain⟨a,n,cap,rfl,hl,hn,hm,hcell⟩:=h.cases;obtain⟨a',n',cap',rfl,hl',hn',hm',hcell'⟩:=ht.cases;unfold maxLen at hm hm';rw[hl] at hz;have HC:=Lib.hid hcell;have HC':=Lib.hid hcell';have HL:=Lib.hid hl;have HL':=Lib.hid hl';have HI:Hid (∀x∈l.map (termTo tl),inI x):=fun x hx=>by obtain⟨y,hy,rfl⟩:=List.mem_map.1 hx;exact termTo_inI ht.1 (h.1 y hy)
 clear h ht hcell hcell' hl hl';go_enter Tryz.func199,Tryz.ntmps199
 go_wp2_with (at_make;refine wpList_make_built rfl (.tmp 9) (.tmp 9) 24 rfl .i64 3 0 8 Tryz.underlying24 info_i64 (by decide) (Below.refl _ w) .i64 .i64 n rfl rfl (by omega) ?_)
 intro w1 hb1;have hq0:rnOf tl l 0=List.replicate n 0:=by rw[rnOf_zero,HL.out]
 rw[←hq0] at hb1;have HB1:=Lib.hid hb1;clear hb1 hq0;go_wp2_with fail
 go_loopw [13] (fun iv wr=>∃i:Nat,i≤n∧iv=.int .i64 i∧Hid (Built .i64 3 w wr (.slice (some ⟨w.heap.size,0,none⟩) n n) (rnOf tl l i))) (fun iv _=>n-(intOf iv).toNat)
 case atStart=>exact⟨0,by omega,rfl,HB1⟩
 case round=>
  obtain⟨i,hi,rfl,HB⟩:=hrel;have HBB:=Lib.hid (HB.out.below);by_cases hlt:i<n
  ·obtain⟨b,off,rfl,hbw,hc⟩:=HC.out (by omega);have c1:=cellk HBB.out (hc i hlt);have hi0:(0:Int)≤i:=by omega
   have hi1:(i:Int)<n:=by omega
   have HSET:=Lib.hid (rnOf_set tl l i (by rw[HL.out];exact hlt));have hsz:=rnOf_len tl l i (by rw[HL.out];omega);rw[HL.out] at hsz;have hcell:=(hsz.symm ▸ HB.out:Built .i64 3 w wr (.slice (some ⟨w.heap.size,0,none⟩) (rnOf tl l i).length (rnOf tl l i).length) (rnOf tl l i)).cell i (by rw[hsz];exact hlt);have hfr:=HB.out.frozen hsz.symm i;generalize (rnOf tl l i).getD i 0=y0 at hcell;have hst:=Lib.hid (HB.out.store hsz.symm i (l.getD i 0));clear hc hbw;by_cases hin:0≤l.getD i 0∧l.getD i 0<n'
   ·obtain⟨k,hk⟩:=Int.eq_ofNat_of_zero_le hin.1;rw[hk] at hin
    have hkn:k<n':=by omega
    obtain⟨b',off',rfl,hbw',hc'⟩:=HC'.out (by omega);have c2:=cellk (World.block_lt_of_cell? w _ (hc' k hkn) |> fun hh=>OnlyAt.below (bs:=[w.heap.size]) HBB.out (OnlyAt.setCell wr w.heap.size i (.int .i64 (l.getD i 0))) (fun x hx=>by simp at hx;omega)) (hc' k hkn);have HTO:Hid (termTo tl (l.getD i 0)=tl.getD k 0):=by unfold Hid;rw[hk,termTo_in hin.1 (by rw[HL'.out];exact hin.2),Int.toNat_natCast]
    rw[hk] at c1 hst c2;have hk0:(0:Int)≤k:=by omega
    have hk1:(k:Int)<n':=by omega
    have hst2:=Lib.hid (hst.out.store (by rw[List.length_set];exact hsz.symm) i (tl.getD k 0));have hcell2:(wr.setCell ⟨w.heap.size,i,none⟩ (.int .i64 k)).cell? ⟨w.heap.size,i,none⟩=some (.int .i64 k):=World.cell?_setCell_same _ _ _ hcell;have hfr2:(wr.setCell ⟨w.heap.size,i,none⟩ (.int .i64 k)).frozen? ⟨w.heap.size,i,none⟩=false:=by rw[World.frozen?_setCell];exact hfr
    clear hc' hbw' hin hk hkn hsz;generalize tl.getD k 0=u at *;go_wp2_with fail
    refine⟨⟨i+1,by omega,by simp,?_⟩,by simp[intOf];omega⟩;have h2:=hst2.out;rw[HTO.out] at HSET;rw[set_set,HSET.out] at h2;exact h2
   ·have HTO:Hid (termTo tl (l.getD i 0)=l.getD i 0):=termTo_out (by rw[HL'.out];omega);by_cases h0:0≤l.getD i 0
    ·have h1:¬(l.getD i 0<n'):=by omega
     clear hin hsz;generalize l.getD i 0=x at *;go_wp2_with fail
     refine⟨⟨i+1,by omega,by simp,?_⟩,by simp[intOf];omega⟩;have h2:=hst.out;rw[HTO.out] at HSET;rw[HSET.out] at h2;exact h2
    ·clear hin hsz;generalize l.getD i 0=x at *;go_wp2_with fail
     refine⟨⟨i+1,by omega,by simp,?_⟩,by simp[intOf];omega⟩;have h2:=hst.out;rw[HTO.out] at HSET;rw[HSET.out] at h2;exact h2
  ·obtain rfl:i=n:=by omega
   have hall:=HB.out;rw[show i=l.length from HL.out.symm,rnOf_all,HL.out] at hall;have HALL:=Lib.hid hall;clear hall;go_wp2_with fail
   go_ret;exact HALL.out.owns HI.out
set_option maxRecDepth 100000 in
set_option maxHeartbeats 4000000 in
theorem iRenAtoms_any (w:World) (v vt:Value) (l:List AtomD) (tl:List Int) (h:RdAtomS w v l) (ht:Ints w vt tl) (hz:sizeAtomS l≤1048576) :
  Calls Tryz.prog 200 #[v,vt] w (GaveO (fun w' v' bs=>ROAtomS w' v' (l.map (renA tl)) bs) w):=by
 obtain⟨a,n,c,rfl,h⟩:=h;obtain⟨hl,hn,hm,hcell⟩:=h.at
 obtain⟨a',cap',rfl⟩:=ht.form;have hnz:n≤1048576:=by unfold sizeAtomS at hz;omega
 unfold maxLen at hm;have HC:=Lib.hid hcell;have HL:=Lib.hid hl;have HT:=Lib.hid ht;have HZ:=Lib.hid hz;have hT:=Lib.hid (fun w v l h h' hz=>iRenTerms_any w v (.slice a' tl.length cap') l tl h h' hz);generalize htn:tl.length=tn at *;clear htn h hcell hl ht hz;go_enter Tryz.func200,Tryz.ntmps200
 go_wp2_with (at_make;refine wpList_make_C rfl (.tmp 9) (.tmp 9) 27 rfl 83 (.agg #[.int .i64 0,.slice none 0 0]) 2 32 Tryz.underlying27 info_Atom (by decide) (by decide) (Below.refl _ w) .i64 .i64 n rfl rfl (by omega) ?_)
 intro w1 hb1;have HB1:Hid (PartA 83 w w1 w.heap.size n [] []):=PartA.made hb1;clear hb1;go_wp2_with fail
 go_loopw [13] (fun iv wr=>∃i:Nat,i≤n∧iv=.int .i64 i∧∃bss,Hid (PartA 83 w wr w.heap.size n ((l.take i).map (renA tl)) bss)) (fun iv _=>n-(intOf iv).toNat)
 case atStart=>exact⟨0,by omega,rfl,[],by simpa using HB1⟩
 case round=>
  obtain⟨i,hi,rfl,bss,HP⟩:=hrel;have hbq:=HP.out.below;by_cases hlt:i<n
  ·obtain⟨b,off,rfl,hbw,hc⟩:=HC.out (by omega);obtain⟨e,hd⟩:∃e,l[i]?=some e:=⟨l[i]'(by rw[HL.out];exact hlt),List.getElem?_eq_getElem (by rw[HL.out];exact hlt)⟩
   obtain⟨ea,em,ec,c0,c1,hdi,hints⟩:=atomAt (n:=n) hc i e hd;have k0:=cellk hbq c0;have k1:=cellk hbq c1;have HRT:=Lib.hid (ren_take tl hd);have hi0:(0:Int)≤i:=by omega
   have hi1:(i:Int)<n:=by omega
   have hez:e.2.length≤1048576:=by
    have h5:=sumArgs_take hd;have h6:=sumArgs_le l (i+1);have h7:=HZ.out;unfold sizeAtomS at h7;omega
   have hlen2:((l.take i).map (renA tl)).length=i:=by simp;have:=HL.out;omega
   have HLEN:=Lib.hid hlen2;have hbn:=(Below.refl wr.heap.size wr).alloc (Nat.le_refl _) (.cells #[.int .i64 e.1,.slice ea em ec] 83);have HBN:=Lib.hid hbn;have HINT:=Lib.hid (hints.below hbq);have HTT:=Lib.hid (HT.out.below hbq);have HDI:=Lib.hid hdi;have hcall:=Lib.hid (fun wc hb=>hT.out wc (.slice ea em ec) e.2 (HINT.out.below (w':=wc) hb) (HTT.out.below (w':=wc) hb) hez);generalize hL:(l.take i).map (renA tl)=L at *;generalize e.1=r at *;clear hc hbw hd c0 c1 hdi hints hez hbq hlen2 hL hbn;go_wp2_with fail
   go_region_law (first
    |(go_simp;go_at_call 199;refine (hcall.out _ (HBN.out.drew)).mono ?_;rintro e2 w2 ⟨vb,bsb,rfl,hob,hfb,hbb⟩;obtain⟨ba,bn,bc,rfl⟩:=hob.1.shape;have hB2:=bnext (HBN.out.drew) hbb;have q0:=cellk hbb (b:=wr.heap.size) (o:=0) (v:=.int .i64 r) (by simp);have q1:=cellk hbb (b:=wr.heap.size) (o:=1) (v:=.slice ea em ec) (by simp);obtain⟨pu,pv,p0,p1⟩:=(HP.out.grow hB2).cells i hlt;have p2:=(HP.out.grow hB2).frozen (i*2);have p3:=(HP.out.grow hB2).frozen (i*2+1);have HNEW:=Lib.hid (PartA.step HP.out HLEN.out hlt hB2 hob (hfb.wide HBN.out.drew.size (Nat.le_refl _)) HDI.out)))
   all_goals (go_wp2_with fail)
   all_goals exact⟨⟨i+1,by omega,by simp,_,by rw[HRT.out];exact HNEW.out⟩,by simp[intOf];omega⟩
  ·obtain rfl:i=n:=by omega
   have hT:Hid (l.take i=l):=List.take_of_length_le (by rw[HL.out];exact Nat.le_refl _);clear hbq;go_wp2_with fail
   go_ret;have hp:=HP.out;rw[hT.out] at hp;obtain⟨bs,b1,b2⟩:=hp.done (by rw[List.length_map,HL.out]);exact⟨_,bs,rfl,b1,b2,hp.below⟩
theorem ren_done {w W wL:World} {d:QueryD} {aa ba:Option Addr} {an ac bn bc:Nat} {bsa bsb:List Nat} {u u':Value} (hsz:w.heap.size+1<W.heap.size) (hw:Below w.heap.size w W) (hl:Below W.heap.size W wL)
  (oa:OInts wL (.slice aa an ac) d.1 bsa) (ob:ROSl 2 COAtom wL (.slice ba bn bc) d.2 bsb) (na:bsa.Nodup) (nb:bsb.Nodup) (fa:∀b∈bsa,W.heap.size≤b∧b<wL.heap.size) (fb:∀b∈bsb,W.heap.size≤b∧b<wL.heap.size) (hab:∀x∈bsa,∀y∈bsb,x≠y) :
  GaveO (fun w' v' bs=>ROQuery w' v' d bs) w (.returned (.agg #[.slice aa an ac,.slice ba bn bc])) ((wL.setCell ⟨w.heap.size+1,0,none⟩ u).setCell ⟨w.heap.size+1,1,none⟩ u'):=by
 have k:OnlyAt [w.heap.size+1] wL ((wL.setCell ⟨w.heap.size+1,0,none⟩ u).setCell ⟨w.heap.size+1,1,none⟩ u'):=(OnlyAt.setCell _ _ _ _).same (OnlyAt.setCell _ _ _ _);have hs:((wL.setCell ⟨w.heap.size+1,0,none⟩ u).setCell ⟨w.heap.size+1,1,none⟩ u').heap.size=wL.heap.size:=by simp[World.setCell]
 have hws:=hw.size;refine⟨_,bsa++bsb,rfl,⟨_,_,_,_,_,_,rfl,bsa,bsb,?_,?_,rfl⟩,⟨?_,fun b hb=>?_⟩,OnlyAt.below (bnext hw hl) k (fun x hx=>by simp at hx;omega)⟩
 ·exact oa.onlyAt k (fun b hb hm=>by simp at hm;have:=(fa b hb).1;omega)
 ·exact ob.onlyAt k (fun b hb hm=>by simp at hm;have:=(fb b hb).1;omega) (fun _ _ _ hn h=>h.onlyAt hn k)
 ·rw[List.nodup_append];exact⟨na,nb,hab⟩
 ·rw[hs];rcases List.mem_append.1 hb with hb|hb
  ·have:=fa b hb;omega
  ·have:=fb b hb;omega
set_option maxRecDepth 100000 in
set_option maxHeartbeats 8000000 in
theorem iRenameQuery_any (w:World) (v vt:Value) (d:QueryD) (tl:List Int) (h:RdQuery w v d) (ht:Ints w vt tl) (hs:sizeQuery d≤1048576) :
  Calls Tryz.prog 171 #[v,vt] w (GaveO (fun w' v' bs=>ROQuery w' v' (renQ d tl) bs) w):=by
 obtain⟨ha,hn,hc,a,n,c,rfl,hi,h⟩:=h;obtain⟨a',cap',rfl⟩:=ht.form;have hb0:∀a b,Below w.heap.size w ((w.alloc a).alloc b):=fun a b=>((Below.refl _ _).alloc (Nat.le_refl _) _).alloc (by simp) _
 have HB0:=Lib.hid hb0;have hR:=Lib.hid (fun w=>iRuleOf_any w ha hn hc a n c);have hA:=Lib.hid (fun w h h'=>iRenTerms_any w (.slice ha hn hc) (.slice a' tl.length cap') d.1 tl h h' (by unfold sizeQuery at hs;omega));have hB:=Lib.hid (fun w h h'=>iRenAtoms_any w (.slice a n c) (.slice a' tl.length cap') d.2 tl h h' (by unfold sizeQuery at hs;omega));have HI:=Lib.hid hi;have HA:Hid (RdAtomS w (.slice a n c) d.2):=⟨_,_,_,rfl,h⟩;have HT:=Lib.hid ht;generalize htn:tl.length=tn at *;clear htn hi h ht hs hb0;go_enter Tryz.func171,Tryz.ntmps171
 go_wp2_with fail
 refine (hR.out _).mono ?_;rintro e W0 ⟨rfl,hb⟩;have hbn:=(Below.refl W0.heap.size W0).alloc (Nat.le_refl _) (.cells #[.slice ha hn hc,.slice a n c] 108);have HBW:=Lib.hid (bnext (bnext (HB0.out _ _) hb) hbn);have x0:=cellk hbn (cellk hb (b:=w.heap.size+1) (o:=0) (v:=.slice none 0 0) (by simp));have x1:=cellk hbn (cellk hb (b:=w.heap.size+1) (o:=1) (v:=.slice none 0 0) (by simp));have y0:=frok hbn (cellk hb (b:=w.heap.size+1) (o:=0) (v:=.slice none 0 0) (by simp)) (frok hb (b:=w.heap.size+1) (o:=0) (v:=.slice none 0 0) (by simp) (by simp));have y1:=frok hbn (cellk hb (b:=w.heap.size+1) (o:=1) (v:=.slice none 0 0) (by simp)) (frok hb (b:=w.heap.size+1) (o:=1) (v:=.slice none 0 0) (by simp) (by simp));have hsz:w.heap.size+1<W0.heap.size:=by have:=hb.size;simp at this;omega
 clear hb;go_wp2_with fail
 obtain⟨W,hW⟩:∃W,W=W0.alloc (.cells #[.slice ha hn hc,.slice a n c] 108):=⟨_,rfl⟩
 rw[←hW] at hbn HBW x0 x1 y0 y1;have q0:W.cell? ⟨W0.heap.size,0,none⟩=some (.slice ha hn hc):=by rw[hW];simp
 have q1:W.cell? ⟨W0.heap.size,1,none⟩=some (.slice a n c):=by rw[hW];simp
 have hWs:W.heap.size=W0.heap.size+1:=by rw[hW];simp
 have HSZ:Hid (w.heap.size+1<W.heap.size):=by unfold Hid;omega
 rw[←hW];clear hW hbn hWs hsz;have HIW:=Lib.hid (HI.out.below HBW.out);have HAW:=Lib.hid (HA.out.below HBW.out);have HTW:=Lib.hid (HT.out.below HBW.out);have hcA:=Lib.hid (fun wc hb=>hA.out wc (HIW.out.below (w':=wc) hb) (HTW.out.below (w':=wc) hb));have hcB:=Lib.hid (fun wc hb=>hB.out wc (HAW.out.below (w':=wc) hb) (HTW.out.below (w':=wc) hb));have HDR:=Lib.hid ((Below.refl W.heap.size W).drew);clear hA hB HI HA HT HIW HAW HTW
 go_region_law (first
  |(go_simp;go_at_call 199;refine (hcA.out _ (by first|exact HBB.out|exact HDR.out)).mono ?_;rintro e2 wA ⟨va,bsa,rfl,hoa,hfa,hba⟩;obtain⟨aa,an,ac,rfl⟩:=hoa.1.shape;have HBA:=Lib.hid (show Below W.heap.size W wA from bnext (by first|exact HBB.out|exact HDR.out) hba);have qa0:=cellk HBA.out q0;have qa1:=cellk HBA.out q1;have xa0:=cellk HBA.out x0;have xa1:=cellk HBA.out x1;have ya0:=frok HBA.out x0 y0;have ya1:=frok HBA.out x1 y1;have HOA:=Lib.hid hoa;have HFA:=Lib.hid hfa;have HLA:=Lib.hid hba)
  |(go_simp;go_at_call 200;refine (hcB.out _ (by first|exact HBA.out|exact HDR.out)).mono ?_;rintro e2 wB ⟨vb,bsb,rfl,⟨ba,bn,bc,rfl,hob⟩,hfb,hbb⟩;have HBB:=Lib.hid (show Below W.heap.size W wB from bnext (by first|exact HBA.out|exact HDR.out) hbb);have qb0:=cellk HBB.out q0;have qb1:=cellk HBB.out q1;have xb0:=cellk HBB.out x0;have xb1:=cellk HBB.out x1;have yb0:=frok HBB.out x0 y0;have yb1:=frok HBB.out x1 y1;have HOB:=Lib.hid hob;have HFB:=Lib.hid hfb;have HLB:=Lib.hid hbb))
 all_goals (go_wp2_with fail)
 all_goals first
  |exact bodyPost_ret (v:=.agg #[.slice aa an ac,.slice ba bn bc]) (by simp[results,Tryz.results171,go_sem,xb0,xb1]) rfl (ren_done (d:=renQ d tl) HSZ.out HBW.out HBB.out (HOA.out.below HLB.out) HOB.out HFA.out.1 HFB.out.1 (fun b hb=>⟨by have:=(HFA.out.2 b hb).1;simpa using this,Nat.lt_of_lt_of_le (HFA.out.2 b hb).2 HLB.out.size⟩) (fun b hb=>⟨Nat.le_trans HBA.out.size (HFB.out.2 b hb).1,(HFB.out.2 b hb).2⟩) (fun x hx y hy e=>by have:=(HFA.out.2 x hx).2;have:=(HFB.out.2 y hy).1;omega))
  |exact bodyPost_ret (v:=.agg #[.slice aa an ac,.slice ba bn bc]) (by simp[results,Tryz.results171,go_sem,xa0,xa1]) rfl (ren_done (d:=renQ d tl) HSZ.out HBW.out HBA.out HOA.out (HOB.out.below HLA.out (fun _ _ _ h=>h.below HLA.out)) HFA.out.1 HFB.out.1 (fun b hb=>⟨Nat.le_trans HBB.out.size (HFA.out.2 b hb).1,(HFA.out.2 b hb).2⟩) (fun b hb=>⟨by have:=(HFB.out.2 b hb).1;simpa using this,Nat.lt_of_lt_of_le (HFB.out.2 b hb).2 HLA.out.size⟩) (fun x hx y hy e=>by have:=(HFA.out.2 x hx).1;have:=(HFB.out.2 y hy).2;omega))
end Go.Proofs.YtpedpbbiamhgdaaGreatDoor
