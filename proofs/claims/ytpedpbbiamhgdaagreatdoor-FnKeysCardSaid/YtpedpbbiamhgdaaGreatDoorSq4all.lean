import Derived.Test.YtpedpbbiamhgdaaGreatDoorSquery
import Derived.Test.YtpedpbbiamhgdaaGreatDoorSatom
import Derived.Deep.RegionHeld3
import Derived.Test.YtpedpbbiamhgdaaGreatDoorAtomK
import Derived.Test.YtpedpbbiamhgdaaGreatDoorBase
namespace Go.Proofs.YtpedpbbiamhgdaaGreatDoor
open Go Go.Sort Go.RowKit
set_option linter.unusedVariables false
set_option maxHeartbeats 1000000 in
theorem sHas_any (w:World) (v:Value) (l:List Int) (x:Int) (h:Ints w v l) :
  Calls Tryz.prog 115 #[v,.int .i64 x] w (GaveBool w (decide (x∈l))):=by
 obtain⟨a,n,cap,rfl,hl,hn,hm,hcell⟩:=h.cases;unfold maxLen at hm;have HC:=Lib.hid hcell;have HL:=Lib.hid hl;clear h hcell hl;go_enter Tryz.func115,Tryz.ntmps115
 go_wp2_with fail
 go_loopw [5] (fun iv wr=>∃i:Nat,i≤n∧iv=.int .i64 i∧wr=w∧Hid (∀j,j<i→l.getD j 0≠x)) (fun iv _=>n-(intOf iv).toNat)
 case atStart=>exact⟨0,by omega,rfl,rfl,fun j hj=>by omega⟩
 case round=>
  obtain⟨i,hi,rfl,rfl,HE⟩:=hrel;by_cases hlt:i<n
  ·obtain⟨b,off,rfl,hbw,hc⟩:=HC.out (by omega);have c1:=hc i hlt;have HMEM:Hid (l.getD i 0∈l):=getD_mem (by rw[HL.out];exact hlt);clear hc hbw;have hi0:(0:Int)≤i:=by omega
   have hi1:(i:Int)<n:=by omega
   by_cases heq:l.getD i 0=x
   ·have HQ:Hid (decide (x∈l)=true):=decide_eq_true (by rw[←heq];exact HMEM.out);have q:(l.getD i 0==x)=true:=beq_iff_eq.2 heq;clear heq;generalize l.getD i 0=y at *;go_wp2_with fail
    go_ret;exact⟨ret_b HQ.out.symm,Below.refl _ _⟩
   ·have HQ:=Lib.hid (fun j (e:j=i)=>(by rw[e];exact heq:l.getD j 0≠x));have q:(l.getD i 0==x)=false:=beq_eq_false_iff_ne.2 heq;clear heq;generalize l.getD i 0=y at *;go_wp2_with fail
    refine⟨⟨i+1,by omega,by simp,by trivial,fun j hj=>?_⟩,by simp[intOf];omega⟩;rcases Nat.lt_or_ge j i with h|h
    ·exact HE.out j h
    ·exact HQ.out j (by omega)
  ·obtain rfl:i=n:=by omega
   have HQ:Hid (decide (x∈l)=false):=decide_eq_false (fun hm=>by
    obtain⟨j,hj,e⟩:=List.mem_iff_getElem.1 hm;refine HE.out j (by rw[←HL.out];exact hj) ?_;simp[List.getD,List.getElem?_eq_getElem hj,e])
   go_wp2_with fail
   go_ret;exact⟨ret_b HQ.out.symm,Below.refl _ _⟩
def bvStep (out:List Int) (t:Int):List Int:=if 0≤t∧t∉out then out++[t] else out
def bodyVars (l:List AtomD):List Int:=(l.flatMap (·.2)).foldl bvStep []
theorem bvStep_len (out:List Int) (t:Int):(bvStep out t).length≤out.length+1:=by unfold bvStep;split<;>simp
theorem bvStep_inI {out:List Int} {t:Int} (h:∀x∈out,inI x) (ht:inI t):∀x∈bvStep out t,inI x:=by
 unfold bvStep
 split
 ·intro x hx;rcases List.mem_append.1 hx with hx|hx
  ·exact h x hx
  ·simp at hx;subst hx;exact ht
 ·exact h
theorem bv_len (out l:List Int):(l.foldl bvStep out).length≤out.length+l.length:=by
 induction l generalizing out with
 |nil=>simp
 |cons t l ih=>have h1:=ih (bvStep out t);have h2:=bvStep_len out t;simp only[List.foldl_cons,List.length_cons];omega
theorem flat_take {l:List AtomD} {i:Nat} {d:AtomD} (h:l[i]?=some d):(l.take (i+1)).flatMap (·.2)=(l.take i).flatMap (·.2)++d.2:=by
 obtain⟨hi,rfl⟩:=List.getElem?_eq_some_iff.1 h;rw[List.take_succ_eq_append_getElem hi,List.flatMap_append];simp
theorem flat_len (l:List AtomD):(l.flatMap (·.2)).length=sumArgs l:=by
 induction l with
 |nil=>rfl
 |cons d l ih=>simp only[List.flatMap_cons,List.length_append,ih,sumArgs,List.map_cons,List.sum_cons]
theorem foldl_take {l:List Int} {k:Nat} (out:List Int) (h:k<l.length):(l.take (k+1)).foldl bvStep out=bvStep ((l.take k).foldl bvStep out) (l.getD k 0):=by
 rw[List.take_succ_eq_append_getElem h,List.foldl_append];simp[List.getD,List.getElem?_eq_getElem h]
set_option maxRecDepth 100000 in
set_option maxHeartbeats 4000000 in
theorem sBodyVars_any (w:World) (v:Value) (d:QueryD) (h:RdQuery w v d) (hs:sizeAtomS d.2≤1048576) :
  Calls Tryz.prog 116 #[v] w (GaveInts w (bodyVars d.2)):=by
 obtain⟨a0,n0,c0,a,n,c,rfl,hi,ha⟩:=h;obtain⟨hl,hn,hm,hcell⟩:=ha.at
 have hnl:n≤1048576:=by unfold sizeAtomS at hs;omega
 unfold maxLen at hm;have HC:=Lib.hid hcell;have HL:=Lib.hid hl;have HSZ:=Lib.hid hs;have hH:=Lib.hid (fun w v l x h=>sHas_any w v l x h);clear hi ha hcell hl hs;go_enter Tryz.func116,Tryz.ntmps116
 go_wp2_with fail
 obtain⟨W,hW⟩:∃W,W=w.alloc (.cells #[.slice a0 n0 c0,.slice a n c] 29):=⟨_,rfl⟩
 have hbW:Below w.heap.size w W:=by rw[hW];exact below_alloc _ _
 have kq:W.cell? ⟨w.heap.size,1,none⟩=some (.slice a n c):=by rw[hW];simp
 have hb1:=Built.lit .i64 3 W W [] (Nat.zero_le _) (Below.refl _ _);have hWs:W.heap.size=w.heap.size+1:=by rw[hW];simp
 have HWS:=Lib.hid hWs;have HBW:=Lib.hid hbW;have KQ:=Lib.hid kq;have HB1:=Lib.hid hb1;rw[←hW];clear hW hbW kq hWs hb1
 go_loopw [3,4] (fun ov iv wr=>∃i:Nat,i≤n∧iv=.int .i64 i∧Built .i64 3 W wr ov (((d.2.take i).flatMap (·.2)).foldl bvStep [])∧Hid (∀x∈((d.2.take i).flatMap (·.2)).foldl bvStep [],inI x)) (fun _ iv _=>n-(intOf iv).toNat)
 case atStart=>exact⟨0,by omega,rfl,by simpa[HWS.out] using HB1.out,fun x hx=>by simp at hx⟩
 case round=>
  obtain⟨i,hi,rfl,hown,HIN⟩:=hrel;obtain⟨wo,hwo⟩:∃x,x=wr:=⟨_,rfl⟩
  subst hwo;have HOWN:=Lib.hid hown;have hbq:=hown.below;have kq:=cellk hbq KQ.out;by_cases hlt:i<n
  ·obtain⟨b,off,rfl,hbw,hc⟩:=HC.out (by omega);have hll:i<d.2.length:=by rw[HL.out];exact hlt
   obtain⟨e,he⟩:∃e,d.2[i]?=some e:=⟨d.2[i]'hll,List.getElem?_eq_getElem hll⟩
   obtain⟨ea,em,ec,c0,c1,hdi,hints⟩:=atomAt (n:=n) hc i e he;have C1:=Lib.hid (cellk HBW.out c1);obtain⟨_,_,_,e1,hl1,hn1,hm1,hcell1⟩:=hints.cases
   cases e1;have HINTS:=Lib.hid (hints.below HBW.out);have HFT:=Lib.hid (flat_take he);have hsz1:=sumArgs_take he;have hsz2:=sumArgs_le d.2 (i+1);have hsz3:sumArgs d.2≤1048576:=by have:=HSZ.out;unfold sizeAtomS at this;omega
   have HLT:Hid ((((d.2.take i).flatMap (·.2)).foldl bvStep []).length+e.2.length≤1048576):=by
    have:=bv_len [] ((d.2.take i).flatMap (·.2))
    rw[flat_len] at this;simp only[List.length_nil] at this;unfold Hid;omega
   have HEI:=Lib.hid hints.1;have HL1:=Lib.hid hl1;have hem:em≤1048576:=by omega
   obtain⟨L,hLdef⟩:∃L,((d.2.take i).flatMap (·.2)).foldl bvStep []=L:=⟨_,rfl⟩
   have HLD:=Lib.hid hLdef;rw[hLdef] at hown HOWN HIN HLT;clear hLdef;generalize he2:e.2=args at *;have HE2:=Lib.hid he2;clear hc hbw c0 c1 hdi hints he hown hbq hl1 hcell1 hsz1 hsz2 hsz3 he2;have hi0:(0:Int)≤i:=by omega
   have hi1:(i:Int)<n:=by omega
   go_wp2_with fail
   go_loopw [3,5,6] (fun ov kv _ wr=>∃k:Nat,k≤em∧kv=.int .i64 k∧Built .i64 3 W wr ov ((args.take k).foldl bvStep L)∧Hid (∀x∈(args.take k).foldl bvStep L,inI x)) (fun _ kv _ _=>em-(intOf kv).toNat)
   case atStart=>exact⟨0,by omega,rfl,by simpa using HOWN.out,by simpa using HIN⟩
   case round=>
    obtain⟨k,hk,rfl,hown,HIN2⟩:=hrel;obtain⟨ov,hov⟩:∃ov,ov=u3:=⟨_,rfl⟩
    subst hov;have HOWN2:=Lib.hid hown;have hbq:=hown.below;have kq:=cellk hbq KQ.out;have ke:=cellk hbq C1.out;by_cases hkm:k<em
    ·obtain⟨_,_,_,e1,hl1,hn1,hm1,hcell1⟩:=HINTS.out.cases
     cases e1;obtain⟨b',off',rfl,hbw',hc'⟩:=hcell1 (by omega);have kx:=cellk hbq (hc' k hkm);have HFT2:=Lib.hid (foldl_take L (l:=args) (k:=k) (by omega));have HXI:Hid (inI (args.getD k 0)):=inI_getD HEI.out k
     have hll2:((args.take k).foldl bvStep L).length≤1048576:=by
      have h5:=bv_len L (args.take k);have h6:=HLT.out;have h7:(args.take k).length≤args.length:=by simp;omega
      omega
     have HV:=Lib.hid (Ints.ofBuilt hown HIN2);have hcall:=Lib.hid (hH.out wr ov ((args.take k).foldl bvStep L) (args.getD k 0) HV.out);generalize (args.take k).foldl bvStep L=M at *;generalize args.getD k 0=x at *;clear hl1 hcell1 hbw' hc' hbq hown;have hk0:(0:Int)≤k:=by omega
     have hk1:(k:Int)<em:=by omega
     by_cases hx0:0≤x
     ·by_cases hxm:x∈M
      ·have HB:Hid (bvStep M x=M):=by unfold Hid bvStep;rw[if_neg (fun h=>h.2 hxm)]
       rw[decide_eq_true hxm] at hcall;clear hxm;go_wp2_with fail
       refine hcall.out.mono ?_;rintro e w2 ⟨rfl,hb⟩;have HO3:=Lib.hid (HOWN2.out.grow hb);clear hb;go_wp2_with fail
       exact⟨⟨k+1,by omega,by simp,by rw[HFT2.out,HB.out];exact HO3.out,by rw[HFT2.out,HB.out];exact HIN2⟩,by simp[intOf];omega⟩
      ·have HB:Hid (bvStep M x=M++[x]):=by unfold Hid bvStep;rw[if_pos ⟨hx0,hxm⟩]
       rw[decide_eq_false hxm] at hcall
       have HIN3:Hid (∀y∈M++[x],inI y):=by
        rw[←HB.out];exact bvStep_inI HIN2 HXI.out
       clear hxm;go_wp2_with fail
       refine hcall.out.mono ?_;rintro e w2 ⟨rfl,hb⟩;have HO3:=Lib.hid (HOWN2.out.grow hb);clear hb;go_wp2_with (at_builtin;refine wpList_app1 rfl (.tmp 43) (.tmp 45) 24 rfl .i64 3 0 8 Tryz.underlying24 info_i64 (by decide) _ M rfl HO3.out _ rfl (by omega) ?_)
       intro v' w3 hown';have HO4:=Lib.hid hown';clear hown';go_wp2_with fail
       exact⟨⟨k+1,by omega,by simp,by rw[HFT2.out,HB.out];exact HO4.out,by rw[HFT2.out,HB.out];exact HIN3.out⟩,by simp[intOf];omega⟩
     ·have HB:Hid (bvStep M x=M):=by unfold Hid bvStep;rw[if_neg (fun h=>hx0 h.1)]
      have q:decide (0≤x)=false:=decide_eq_false hx0;clear hx0;go_wp2_with fail
      exact⟨⟨k+1,by omega,by simp,by rw[HFT2.out,HB.out];exact HOWN2.out,by rw[HFT2.out,HB.out];exact HIN2⟩,by simp[intOf];omega⟩
    ·obtain rfl:k=em:=by omega
     have hT:args.take k=args:=List.take_of_length_le (by rw[HL1.out];exact Nat.le_refl _);rw[hT] at HOWN2 HIN2
     have HFO:Hid (((d.2.take (i+1)).flatMap (·.2)).foldl bvStep []=args.foldl bvStep L):=by
      unfold Hid;rw[HFT.out,List.foldl_append,HLD.out]
     have HI2:=Lib.hid HIN2;clear hT hown hbq;go_wp2_with fail
     exact⟨⟨i+1,by omega,by simp,by rw[HFO.out];exact HOWN2.out,by rw[HFO.out];exact HI2.out⟩,by simp[intOf];omega⟩
  ·obtain rfl:i=n:=by omega
   have HT:Hid (d.2.take i=d.2):=List.take_of_length_le (by rw[HL.out];exact Nat.le_refl _);clear hown hbq;go_wp2_with fail
   go_ret;have h5:=HOWN.out;have h6:=HIN.out;rw[HT.out] at h5 h6;obtain⟨v',bs',e1,ho,hf,hb⟩:=h5.owns h6;exact⟨v',bs',e1,ho,hf.wide (by rw[HWS.out];omega) (Nat.le_refl _),bnext HBW.out hb⟩
def termTo (tl:List Int) (t:Int):Int:=if inB t 0 (tl.length-1) then tl.getD t.toNat 0 else t
theorem termTo_inI {tl:List Int} {t:Int} (h:∀x∈tl,inI x) (ht:inI t):inI (termTo tl t):=by
 unfold termTo;split
 ·exact inI_getD h _
 ·exact ht
theorem sTerm4_any (w:World) (t:Int) (v:Value) (tl:List Int) (h:Ints w v tl) :
  Calls Tryz.prog 201 #[.int .i64 t,v] w (GaveInt w (termTo tl t)):=by
 obtain⟨a,n,cap,rfl,hl,hn,hm,hcell⟩:=h.cases;unfold maxLen at hm;have hI:=Lib.hid (l1In_any t 0 (n-1) w)
 cases hb:inB t 0 (n-1) with
 |true=>
  have h2:0≤t∧t≤n-1:=of_decide_eq_true hb;obtain⟨k,rfl⟩:=Int.eq_ofNat_of_zero_le h2.1;have hk:k<n:=by omega
  obtain⟨b,off,rfl,hbw,hc⟩:=hcell (by omega);have c1:=hc k hk;have HQ:Hid (termTo tl k=tl.getD k 0):=by unfold Hid termTo;rw[hl,hb,Int.toNat_natCast];rfl
  have hi0:(0:Int)≤k:=by omega
  have hi1:(k:Int)<n:=by omega
  rw[hb] at hI;generalize tl.getD k 0=y at *;clear h hb h2 hc hbw hcell hl;go_enter Tryz.func201,Tryz.ntmps201
  go_wp2_with fail
  refine hI.out.mono ?_;rintro e w1 ⟨rfl,rfl⟩;go_wp2_with fail
  go_ret;exact⟨ret_n HQ.out.symm,Below.refl _ _⟩
 |false=>
  have HQ:Hid (termTo tl t=t):=by unfold Hid termTo;rw[hl,hb];rfl
  rw[hb] at hI;clear h hb hcell hl;go_enter Tryz.func201,Tryz.ntmps201
  go_wp2_with fail
  refine hI.out.mono ?_;rintro e w1 ⟨rfl,rfl⟩;go_wp2_with fail
  go_ret;exact⟨ret_n HQ.out.symm,Below.refl _ _⟩
theorem map_take1 {l:List Int} {k:Nat} (f:Int→Int) (h:k<l.length):(l.take (k+1)).map f=(l.take k).map f++[f (l.getD k 0)]:=by
 rw[List.take_succ_eq_append_getElem h,List.map_append];simp[List.getD,List.getElem?_eq_getElem h]
set_option maxHeartbeats 2000000 in
theorem sTerms4_any (w:World) (v v':Value) (l tl:List Int) (h:Ints w v l) (h':Ints w v' tl) (hs:l.length≤1048576) :
  Calls Tryz.prog 172 #[v,v'] w (GaveInts w (l.map (termTo tl))):=by
 obtain⟨a,n,cap,rfl,hl,hn,hm,hcell⟩:=h.cases;obtain⟨a',cap',rfl⟩:=h'.form;unfold maxLen at hm;have HC:=Lib.hid hcell;have HL:=Lib.hid hl;have HI:=Lib.hid h.1;have HV:=Lib.hid h';have hnl:n≤1048576:=by omega
 have hT:=Lib.hid (fun w t h=>sTerm4_any w t (.slice a' tl.length cap') tl h);have hb1:=Built.lit .i64 3 w w [] (Nat.zero_le _) (Below.refl _ _);have HB1:=Lib.hid hb1
 have HALL:Hid (∀x∈l.map (termTo tl),inI x):=fun x hx=>by
  obtain⟨y,hy,rfl⟩:=List.mem_map.1 hx;exact termTo_inI h'.1 (h.1 y hy)
 generalize tl.length=tn at *;clear h h' hcell hl hs hb1;go_enter Tryz.func172,Tryz.ntmps172
 go_wp2_with fail
 go_loopw [5,6] (fun ov iv wr=>∃i:Nat,i≤n∧iv=.int .i64 i∧Built .i64 3 w wr ov ((l.take i).map (termTo tl))) (fun _ iv _=>n-(intOf iv).toNat)
 case atStart=>exact⟨0,by omega,rfl,by simpa using HB1.out⟩
 case round=>
  obtain⟨i,hi,rfl,hown⟩:=hrel;have HOWN:=Lib.hid hown;have hbq:=hown.below;by_cases hlt:i<n
  ·obtain⟨b,off,rfl,hbw,hc⟩:=HC.out (by omega);have c1:=cellk hbq (hc i hlt);have HS:=Lib.hid (map_take1 (l:=l) (k:=i) (termTo tl) (by rw[HL.out];exact hlt));have hln:((l.take i).map (termTo tl)).length≤i:=by simp;omega
   have hcall:=Lib.hid (hT.out wr (l.getD i 0) (HV.out.below hbq));have hi0:(0:Int)≤i:=by omega
   have hi1:(i:Int)<n:=by omega
   generalize termTo tl (l.getD i 0)=y at *;generalize l.getD i 0=x at *;generalize (l.take i).map (termTo tl)=M at *;clear hc hbw hbq hown;go_wp2_with fail
   refine hcall.out.mono ?_;rintro e w2 ⟨rfl,hb⟩;have HO2:=Lib.hid (HOWN.out.grow hb);clear hb;go_wp2_with (at_builtin;refine wpList_app1 rfl (.tmp 21) (.tmp 23) 24 rfl .i64 3 0 8 Tryz.underlying24 info_i64 (by decide) _ M rfl HO2.out _ rfl (by omega) ?_)
   intro v' w3 hown';have HO4:=Lib.hid hown';clear hown';go_wp2_with fail
   exact⟨⟨i+1,by omega,by simp,by rw[HS.out];exact HO4.out⟩,by simp[intOf];omega⟩
  ·obtain rfl:i=n:=by omega
   have HT:Hid (l.take i=l):=List.take_of_length_le (by rw[HL.out];exact Nat.le_refl _);clear hown hbq;go_wp2_with fail
   go_ret;have h5:=HOWN.out;rw[HT.out] at h5;exact h5.owns HALL.out
def renA (tl:List Int) (x:AtomD):AtomD:=(x.1,x.2.map (termTo tl))
def renQ (d:QueryD) (tl:List Int):QueryD:=(d.1.map (termTo tl),d.2.map (renA tl))
theorem ren_take {l:List AtomD} {i:Nat} {e:AtomD} (tl:List Int) (h:l[i]?=some e):(l.take (i+1)).map (renA tl)=(l.take i).map (renA tl)++[(e.1,e.2.map (termTo tl))]:=by
 obtain⟨hi,rfl⟩:=List.getElem?_eq_some_iff.1 h;rw[List.take_succ_eq_append_getElem hi,List.map_append];rfl
end Go.Proofs.YtpedpbbiamhgdaaGreatDoor
