import Derived.Test.YtpedpbbiamhgdaaGreatDoorU8all
import Derived.Test.YtpedpbbiamhgdaaGreatDoorSfineV
import Derived.Test.YtpedpbbiamhgdaaGreatDoorAtomK
import Derived.Deep.RegionLaw
import Derived.Test.YtpedpbbiamhgdaaGreatDoorSquery
import Derived.Test.YtpedpbbiamhgdaaGreatDoorBase
import Derived.Deep.DeepCutAuto
namespace Go.Proofs.YtpedpbbiamhgdaaGreatDoor
open Go Go.Sort Go.RowKit
set_option linter.unusedVariables false
end Go.Proofs.YtpedpbbiamhgdaaGreatDoor
namespace Go.Proofs.YtpedpbbiamhgdaaGreatDoor
open Go Go.RowKit
set_option linter.unusedVariables false
def uni1 (m:List Int) (t u:Int):List Int × Bool:=if t<0 then (m,decide (t=u)) else if m.getD t.toNat 0=-1000 then (m.set t.toNat u,true) else (m,decide (m.getD t.toNat 0=u))
def uniTo (m f t:List Int):Nat→List Int × Bool
 |0=>(m,true)
 |i+1=>if (uniTo m f t i).2=true then uni1 (uniTo m f t i).1 (f.getD i 0) (t.getD i 0) else uniTo m f t i
theorem uniTo_yes {m f t:List Int} {i:Nat} (h:(uniTo m f t i).2=true):uniTo m f t (i+1)=uni1 (uniTo m f t i).1 (f.getD i 0) (t.getD i 0):=by
 show (if _ then _ else _)=_;rw[if_pos h]
theorem uniTo_no {m f t:List Int} {i:Nat} (h:(uniTo m f t i).2=false):uniTo m f t (i+1)=uniTo m f t i:=by
 show (if _ then _ else _)=_;rw[if_neg (by rw[h];simp)]
theorem uniTo_stuck {m f t:List Int} {i:Nat} (h:(uniTo m f t i).2=false):∀k,uniTo m f t (i+k)=uniTo m f t i
 |0=>rfl
 |k+1=>by
  have ih:=uniTo_stuck h k;show uniTo m f t ((i+k)+1)=_;rw[uniTo_no (by rw[ih,h]),ih]
def uniF (m f t:List Int):List Int × Bool:=uniTo m f t f.length
theorem uniF_no {m f t:List Int} {i:Nat} (hi:i<f.length) (h:(uniTo m f t i).2=true) {x:List Int} (h1:uni1 (uniTo m f t i).1 (f.getD i 0) (t.getD i 0)=(x,false)):uniF m f t=(x,false):=by
 have h2:uniTo m f t (i+1)=(x,false):=(uniTo_yes h).trans h1;have:=uniTo_stuck (i:=i+1) (m:=m) (f:=f) (t:=t) (by rw[h2]) (f.length-(i+1));unfold uniF;rw[show f.length=i+1+(f.length-(i+1)) by omega,this,h2]
theorem uni1_len (m:List Int) (t u:Int):(uni1 m t u).1.length=m.length:=by
 unfold uni1;split
 ·rfl
 ·split
  ·simp
  ·rfl
theorem uniTo_len (m f t:List Int):∀i,(uniTo m f t i).1.length=m.length
 |0=>rfl
 |i+1=>by
  cases h:(uniTo m f t i).2 with
  |true=>rw[uniTo_yes h,uni1_len];exact uniTo_len m f t i
  |false=>rw[uniTo_no h];exact uniTo_len m f t i
theorem getD_all7 {p:Int→Prop} {l:List Int} (h:∀x∈l,p x) (h0:p 0) (i:Nat):p (l.getD i 0):=by
 rw[List.getD_eq_getElem?_getD]
 cases hx:l[i]? with
 |none=>exact h0
 |some x=>exact h x (List.mem_of_getElem? hx)
theorem uni1_all {p:Int→Prop} {m:List Int} {t u:Int} (hm:∀x∈m,p x) (hu:p u):∀x∈(uni1 m t u).1,p x:=by
 unfold uni1;split
 ·exact hm
 ·split
  ·intro x hx;rcases List.mem_or_eq_of_mem_set hx with h|h
   ·exact hm x h
   ·rw[h];exact hu
  ·exact hm
theorem uniTo_all {p:Int→Prop} {m f t:List Int} (hm:∀x∈m,p x) (ht:∀x∈t,p x) (h0:p 0):∀i,∀x∈(uniTo m f t i).1,p x
 |0=>hm
 |i+1=>by
  cases h:(uniTo m f t i).2 with
  |true=>rw[uniTo_yes h];exact uni1_all (uniTo_all hm ht h0 i) (getD_all7 ht h0 i)
  |false=>rw[uniTo_no h];exact uniTo_all hm ht h0 i
theorem uni1_neg {m:List Int} {t u:Int} (h:t<0):uni1 m t u=(m,decide (t=u)):=by unfold uni1;rw[if_pos h]
theorem uni1_new {m:List Int} {k:Nat} {u:Int} (h:m.getD k 0=-1000):uni1 m (k:Int) u=(m.set k u,true):=by
 unfold uni1;rw[if_neg (by omega),Int.toNat_natCast,if_pos h]
theorem uni1_old {m:List Int} {k:Nat} {u:Int} (h:m.getD k 0≠-1000):uni1 m (k:Int) u=(m,decide (m.getD k 0=u)):=by
 unfold uni1;rw[if_neg (by omega),Int.toNat_natCast,if_neg h]
def srch (B:List AtomD):List AtomD→List Int→Option (List Int)
 |[],m=>some m
 |a::rest,m=>B.findSome? (fun b=>if a.1=b.1∧a.2.length=b.2.length∧(uniF m a.2 b.2).2=true then srch B rest (uniF m a.2 b.2).1 else none)
def srch1 (B:List AtomD) (a:AtomD) (rest:List AtomD) (m:List Int) (b:AtomD):Option (List Int):=if a.1=b.1∧a.2.length=b.2.length∧(uniF m a.2 b.2).2=true then srch B rest (uniF m a.2 b.2).1 else none
theorem srch_cons (B:List AtomD) (a:AtomD) (rest:List AtomD) (m:List Int):srch B (a::rest) m=B.findSome? (srch1 B a rest m):=rfl
theorem fs_take {α β:Type} {l:List α} {f:α→Option β} {k:Nat} {x:α} (h:l[k]?=some x) (h0:(l.take k).findSome? f=none):(l.take (k+1)).findSome? f=f x:=by
 obtain⟨hk,rfl⟩:=List.getElem?_eq_some_iff.1 h;rw[List.take_succ_eq_append_getElem hk,List.findSome?_append,h0];simp
theorem fs_hit {α β:Type} {l:List α} {f:α→Option β} {k:Nat} {x:α} {y:β} (h:l[k]?=some x) (h0:(l.take k).findSome? f=none) (h1:f x=some y):l.findSome? f=some y:=by
 have h2:=fs_take h h0;rw[h1] at h2
 conv=>lhs;rw[←List.take_append_drop (k+1) l]
 rw[List.findSome?_append,h2];rfl
def findN (f t:QueryD):Option (List Int):=if f.1.length=t.1.length∧(uniF (List.replicate 20 (-1000)) f.1 t.1).2=true then srch t.2 f.2 (uniF (List.replicate 20 (-1000)) f.1 t.1).1 else none
end Go.Proofs.YtpedpbbiamhgdaaGreatDoor
namespace Go.Proofs.YtpedpbbiamhgdaaGreatDoor
open Go Go.Sort Go.RowKit
set_option linter.unusedVariables false
def unm20:List Int:=List.replicate 20 (-1000)
theorem rep_snoc (i:Nat):List.replicate (i+1) (-1000:Int)=List.replicate i (-1000)++[-1000]:=List.replicate_succ'
theorem sEmpty7_any (w:World):Calls Tryz.prog 95 #[] w (GaveInts w unm20):=by
 have HB1:=Lib.hid (Built.lit .i64 3 w w [] (Nat.zero_le _) (Below.refl _ _))
 have HALL:Hid (∀x∈unm20,inI x):=fun x hx=>by
  rw[List.eq_of_mem_replicate hx];unfold inI;omega
 go_enter Tryz.func95,Tryz.ntmps95
 go_wp2_with fail
 go_loopw [1,2] (fun ov iv wr=>∃i:Nat,i≤20∧iv=.int .i64 i∧Built .i64 3 w wr ov (List.replicate i (-1000))) (fun _ iv _=>20-(intOf iv).toNat)
 case atStart=>exact⟨0,by omega,rfl,by simpa using HB1.out⟩
 case round=>
  obtain⟨i,hi,rfl,hown⟩:=hrel;have HOWN:=Lib.hid hown;by_cases hlt:i<20
  ·have hi1:(i:Int)<20:=by omega
   have HS:=Lib.hid (rep_snoc i);have hln:(List.replicate i (-1000:Int)).length≤20:=by simp;omega
   generalize List.replicate i (-1000:Int)=M at *;clear hown;go_wp2_with (at_builtin;refine wpList_app1 rfl (.tmp 8) (.tmp 9) 24 rfl .i64 3 0 8 Tryz.underlying24 info_i64 (by decide) _ M rfl HOWN.out _ rfl (by omega) ?_)
   intro v' w3 hown';have HO4:=Lib.hid hown';clear hown';go_wp2_with fail
   exact⟨⟨i+1,by omega,by simp,by rw[HS.out];exact HO4.out⟩,by simp[intOf];omega⟩
  ·obtain rfl:i=20:=by omega
   have HOW:Hid (Built .i64 3 w wr u1 unm20):=hown;clear hown HOWN;go_wp2_with fail
   go_ret;exact HOW.out.owns HALL.out
set_option maxRecDepth 100000 in
set_option maxHeartbeats 8000000 in
theorem sUnify_any (w:World) (vf vt vm:Value) (f t m:List Int) (hf:Ints w vf f) (ht:Ints w vt t) (hm:Ints w vm m) (h20:m.length=20) (hlen:f.length=t.length) (hlt20:∀x∈f,x<20) :
  Calls Tryz.prog 94 #[vf,vt,vm] w (fun e w'=>∃xv,e=.returned (.tuple #[xv,.bool (uniF m f t).2])∧Ints w' xv (uniF m f t).1∧Below w.heap.size w w'):=by
 obtain⟨a,n,cap,rfl,hl,hn,hmx,hcell⟩:=hf.cases;obtain⟨a',n',cap',rfl,hl',hn',hmx',hcell'⟩:=ht.cases;obtain⟨ma,mcap,rfl⟩:=hm.form;obtain rfl:n'=n:=by omega
 unfold maxLen at hmx hmx';have HC:=Lib.hid hcell;have HC':=Lib.hid hcell';have HL:=Lib.hid hl;have H20:=Lib.hid h20;have HALL:Hid (∀i,∀x∈(uniTo m f t i).1,inI x):=uniTo_all hm.1 ht.1 (by unfold inI;omega);have HLT:=Lib.hid hlt20;have HFN:Hid (uniF m f t=uniTo m f t n'):=by unfold Hid uniF;rw[hl]
 have hlit:=Built.lit .i64 3 w w [] (Nat.zero_le _) (Below.refl _ _);have HLIT:Hid (Built .i64 3 w (w.alloc (.cells #[] 3)) (.slice (some ⟨w.heap.size,0,none⟩) 0 0) []):=Lib.hid (by simpa using hlit);have HBA:=Lib.hid (hm.below (below_alloc w (.cells #[] 3)));rw[h20] at HBA ⊢;clear hf ht hm hcell hcell' hl hl' h20 hlen hlt20 hlit;go_enter Tryz.func94,Tryz.ntmps94
 go_wp2_with (at_builtin;refine wpList_appInts rfl (.tmp 11) (.tmp 12) 24 rfl 3 Tryz.underlying24 info_i64 _ [] rfl HLIT.out _ m rfl HBA.out (by rw[H20.out];simp) ?_)
 intro v1 w1 hb1;have hb2:Built .i64 3 w w1 v1 m:=by simpa using hb1
 obtain⟨g,gc,rfl,hgc⟩:∃g gc,v1=.slice (some ⟨g,0,none⟩) 20 gc∧gc≤maxLen:=by
  rcases BuiltC.form hb2 with⟨_,h0⟩|⟨g,cp,h,_,h2⟩
  ·rw[H20.out] at h0;omega
  ·exact⟨g,cp,by rw[h,H20.out],h2⟩
 unfold maxLen at hgc;have HBU:Hid (Built .i64 3 w w1 (.slice (some ⟨g,0,none⟩) 20 gc) (uniTo m f t 0).1):=hb2;clear hb1 hb2;go_wp2_with fail
 go_loopw [9] (fun iv wr=>∃i:Nat,i≤n'∧iv=.int .i64 i∧(uniTo m f t i).2=true∧Hid (Built .i64 3 w wr (.slice (some ⟨g,0,none⟩) 20 gc) (uniTo m f t i).1)) (fun iv _=>n'-(intOf iv).toNat)
 case atStart=>exact⟨0,by omega,rfl,rfl,HBU⟩
 case round=>
  obtain⟨i,hi,rfl,hyes,HB⟩:=hrel;have hbq:=HB.out.below;by_cases hlt:i<n'
  ·obtain⟨b,off,rfl,hbw,hc⟩:=HC.out (by omega);obtain⟨b',off',rfl,hbw',hc'⟩:=HC'.out (by omega);have c1:=cellk hbq (hc i hlt);have c2:=cellk hbq (hc' i hlt);have hi0:(0:Int)≤i:=by omega
   have hi1:(i:Int)<n':=by omega
   have hx20:f.getD i 0<20:=getD_all7 (p:=fun x=>x<20) HLT.out (by omega) i;have HNO:=Lib.hid (fun x h=>uniF_no (m:=m) (f:=f) (t:=t) (i:=i) (x:=x) (by rw[HL.out];exact hlt) hyes h);have HYES:=Lib.hid (uniTo_yes hyes);have hlen:=uniTo_len m f t i;rw[H20.out] at hlen;have HLEN:=Lib.hid hlen;have HAI:=Lib.hid (HALL.out i);generalize (uniTo m f t i).1=M at *;generalize f.getD i 0=x at *;generalize t.getD i 0=u at *;clear hc hbw hc' hbw';by_cases h0:x<0
   ·have H1:=Lib.hid (uni1_neg (m:=M) (u:=u) h0);by_cases he:x=u
    ·have H2:Hid (uni1 M x u=(M,true)):=by unfold Hid;rw[H1.out,decide_eq_true he]
     have he2:(x != u)=false:=by simp[he]
     clear he hbq;go_wp2_with fail
     exact⟨⟨i+1,by omega,by simp,by rw[HYES.out,H2.out],by rw[HYES.out,H2.out];exact HB⟩,by simp[intOf];omega⟩
    ·have H2:=Lib.hid (HNO.out M (by rw[H1.out,decide_eq_false he]));have he2:(x != u)=true:=by simp[he]
     clear he hbq;go_wp2_with fail
     go_ret2
     exact⟨.slice (some ⟨g,0,none⟩) 20 gc,by rw[H2.out];rfl,by rw[H2.out];exact Ints.ofBuilt HB.out HAI.out,HB.out.below⟩
   ·obtain⟨k,rfl⟩:=Int.eq_ofNat_of_zero_le (by omega:0≤x);have hk:k<20:=by omega
    have hk0:(0:Int)≤k:=by omega
    have hk1:(k:Int)<20:=by omega
    have hcell:=(HLEN.out.symm ▸ HB.out:Built .i64 3 w wr (.slice (some ⟨g,0,none⟩) M.length gc) M).cell k (by rw[HLEN.out];exact hk);have hfr:=HB.out.frozen HLEN.out.symm k;by_cases hu:M.getD k 0=-1000
    ·have H2:=Lib.hid (uni1_new (m:=M) (k:=k) (u:=u) hu);have hst:=Lib.hid (HB.out.store HLEN.out.symm k u);rw[hu] at hcell;clear hu hbq;go_wp2_with fail
     exact⟨⟨i+1,by omega,by simp,by rw[HYES.out,H2.out],by rw[HYES.out,H2.out];exact hst⟩,by simp[intOf];omega⟩
    ·have H1:=Lib.hid (uni1_old (m:=M) (k:=k) (u:=u) hu);have hu2:(M.getD k 0 == -1000)=false:=by simpa using hu
     obtain⟨y,hy⟩:∃y,M.getD k 0=y:=⟨_,rfl⟩
     rw[hy] at H1 hu2 hcell;have d1:=cell_regrown hcell;have d2:=cell_regrown c2;by_cases he:y=u
     ·have H2:Hid (uni1 M (k:Int) u=(M,true)):=by unfold Hid;rw[H1.out,decide_eq_true he]
      have he2:(y != u)=false:=by simp[he]
      clear he hbq hu hy;go_wp2_with fail
      refine wp_region_quiet_below (by kernel_rfl) (by kernel_rfl) ?_
      repeat (any_goals (first|go_big_quiet_step (fail)|quiet_step (fail)))
      refine wpQuiet_nil ?_;intro _ hw';obtain⟨⟨dq,osq⟩,hw''⟩:=hw';subst hw'';have HB2:Hid (Built .i64 3 w (grow (redrawn wr dq) osq) (.slice (some ⟨g,0,none⟩) 20 gc) M):=HB.out.grow (below_regrown _ _ _);go_wp2_with fail
      exact⟨⟨i+1,by omega,by simp,by rw[HYES.out,H2.out],by rw[HYES.out,H2.out];exact HB2⟩,by simp[intOf];omega⟩
     ·have H2:=Lib.hid (HNO.out M (by rw[H1.out,decide_eq_false he]));have he2:(y != u)=true:=by simp[he]
      clear he hbq hu hy;go_wp2_with fail
      refine wp_region_quiet_below (by kernel_rfl) (by kernel_rfl) ?_
      repeat (any_goals (first|go_big_quiet_step (fail)|quiet_step (fail)))
      refine wpQuiet_nil ?_;intro _ hw';obtain⟨⟨dq,osq⟩,hw''⟩:=hw';subst hw'';have HB2:Hid (Built .i64 3 w (grow (redrawn wr dq) osq) (.slice (some ⟨g,0,none⟩) 20 gc) M):=HB.out.grow (below_regrown _ _ _);go_wp2_with fail
      go_ret2
      exact⟨.slice (some ⟨g,0,none⟩) 20 gc,by rw[H2.out];rfl,by rw[H2.out];exact Ints.ofBuilt HB2.out HAI.out,HB2.out.below⟩
  ·obtain rfl:i=n':=by omega
   have HF:=HFN.out;have HY:=Lib.hid hyes;have HAI:=Lib.hid (HALL.out i);clear hbq hyes;go_wp2_with fail
   go_ret2
   exact⟨.slice (some ⟨g,0,none⟩) 20 gc,by rw[HF,HY.out];rfl,by rw[HF];exact Ints.ofBuilt HB.out HAI.out,HB.out.below⟩
theorem srch_len {B:List AtomD}:∀{F:List AtomD} {m y:List Int},srch B F m=some y→y.length=m.length
 |[],m,y,h=>by cases h;rfl
 |a::rest,m,y,h=>by
  rw[srch_cons] at h;obtain⟨b,hb,h1⟩:=List.exists_of_findSome?_eq_some h;unfold srch1 at h1
  split at h1
  ·rw[srch_len h1];exact uniTo_len _ _ _ _
  ·cases h1
theorem srch1_no {B:List AtomD} {a:AtomD} {rest:List AtomD} {m:List Int} {b:AtomD} (h:¬(a.1=b.1∧a.2.length=b.2.length∧(uniF m a.2 b.2).2=true)):srch1 B a rest m b=none:=by unfold srch1;rw[if_neg h]
theorem srch1_yes {B:List AtomD} {a:AtomD} {rest:List AtomD} {m:List Int} {b:AtomD} (h1:a.1=b.1) (h2:a.2.length=b.2.length) (h3:(uniF m a.2 b.2).2=true):srch1 B a rest m b=srch B rest (uniF m a.2 b.2).1:=by unfold srch1;rw[if_pos ⟨h1,h2,h3⟩]
def Found (w:World) (o:Option (List Int)) (v:Value) (b:Bool):Prop:=match o with|some y=>b=true∧Ints w v y|none=>b=false
set_option maxRecDepth 100000 in
set_option maxHeartbeats 2000000 in
theorem sSearch7_any (vf vt:Value) (f t:QueryD) (h20:∀a∈f.2,∀x∈a.2,x<20):∀(r i:Nat) (ii:Int) (hii:ii=(i:Int)) (hr:i+r=f.2.length) (w:World) (vm:Value) (m:List Int) (hf:RdQuery w vf f) (ht:RdQuery w vt t) (hm:Ints w vm m) (hml:m.length=20),
  Calls Tryz.prog 96 #[vf,vt,.int .i64 ii,vm] w (fun e w'=>∃yv b,e=.returned (.tuple #[yv,.bool b])∧Found w' (srch t.2 (f.2.drop i) m) yv b∧Below w.heap.size w w'):=by
 intro r
 induction r with
 |zero=>
  intro i ii hii hr w vm m hf ht hm hml;subst hii;obtain⟨fa,fn,fc,ga,gn,gc,rfl,hf1,hf2⟩:=hf;obtain⟨ta,tn,tc,ua,un,uc,rfl,ht1,ht2⟩:=ht;obtain⟨hlf,hnf,hmf,hcf⟩:=hf2.at
  obtain⟨ma,mn,mc,rfl⟩:=hm.shape;obtain rfl:i=gn:=by omega
  have HS:Hid (srch t.2 (f.2.drop i) m=some m):=by unfold Hid;rw[List.drop_of_length_le (by omega)];rfl
  have hb0:∀a b,Below w.heap.size w ((w.alloc a).alloc b):=fun a b=>((Below.refl _ _).alloc (Nat.le_refl _) _).alloc (by simp) _
  have HB0:=Lib.hid hb0;have HM:=Lib.hid hm;clear hf1 hf2 ht1 ht2 hm hcf hlf hr hnf hmf hb0;go_enter Tryz.func96,Tryz.ntmps96
  go_wp2_with fail
  go_ret2
  exact⟨.slice ma mn mc,true,rfl,by rw[HS.out];exact⟨rfl,HM.out.below (HB0.out _ _)⟩,HB0.out _ _⟩
 |succ r ih=>
  intro i ii hii hr w vm m hf ht hm hml;subst hii;have HIH:=Lib.hid (fun (w':World) (hb:Below w.heap.size w w') xv x hx hxl ii hii=>ih (i+1) ii hii (by omega) w' xv x (RdQuery.below hf hb) (RdQuery.below ht hb) hx hxl);have hHD:∃a,f.2[i]?=some a:=⟨f.2[i]'(by omega),List.getElem?_eq_getElem (by omega)⟩
  obtain⟨a,hd⟩:=hHD;obtain⟨rest,hrest⟩:∃rest,f.2.drop (i+1)=rest:=⟨_,rfl⟩
  have HS:Hid (srch t.2 (f.2.drop i) m=t.2.findSome? (srch1 t.2 a rest m)):=by
   obtain⟨h1,h2⟩:=List.getElem?_eq_some_iff.1 hd;unfold Hid;rw[List.drop_eq_getElem_cons h1,h2,hrest,srch_cons]
  rw[hrest] at HIH;rw[HS.out];have HA20:=Lib.hid (h20 a (List.mem_of_getElem? hd));obtain⟨fa,fn,fc,ga,gn,gc,rfl,hf1,hf2⟩:=hf;obtain⟨ta,tn,tc,ua,un,uc,rfl,ht1,ht2⟩:=ht;obtain⟨hlf,hnf,hmf,hcf⟩:=hf2.at
  obtain⟨hlt,hnt,hmt,hct⟩:=ht2.at
  obtain⟨ma,mcap,rfl⟩:=hm.form;rw[hml] at hm ⊢;unfold maxLen at hmf hmt;have hin:i<gn:=by omega
  obtain⟨b,off,rfl,hbw,hc⟩:=hcf (by omega);obtain⟨ea,em,ec,c0,c1,hdi,hints⟩:=atomAt (n:=gn) hc i a hd;have hb0:∀a b,Below w.heap.size w ((w.alloc a).alloc b):=fun a b=>((Below.refl _ _).alloc (Nat.le_refl _) _).alloc (by simp) _
  have HB0:=Lib.hid hb0;have HM:=Lib.hid hm;have HINT:=Lib.hid hints;have HCT:=Lib.hid hct;have HLT:=Lib.hid hlt;have HML:=Lib.hid hml;have HWR:Hid (wrap64 ((i:Int)+1)=((i+1:Nat):Int)):=by unfold Hid wrap64;omega
  have hne:((i:Int)==gn)=false:=by rw[beq_eq_false_iff_ne];omega
  have hi0:(0:Int)≤i:=by omega
  have hi1:(i:Int)<gn:=by omega
  obtain⟨W,hW⟩:∃W,W=((w.alloc (.cells #[.slice fa fn fc,.slice (some ⟨b,off,none⟩) gn gc] 29)).alloc (.cells #[.slice ta tn tc,.slice ua un uc] 29)):=⟨_,rfl⟩
  have hbW:Below w.heap.size w W:=by rw[hW];exact hb0 _ _
  have q0:W.cell? ⟨w.heap.size,0,none⟩=some (.slice fa fn fc):=by rw[hW];simp
  have q1:W.cell? ⟨w.heap.size,1,none⟩=some (.slice (some ⟨b,off,none⟩) gn gc):=by rw[hW];simp
  have q2:W.cell? ⟨w.heap.size+1,0,none⟩=some (.slice ta tn tc):=by rw[hW];simp
  have q3:W.cell? ⟨w.heap.size+1,1,none⟩=some (.slice ua un uc):=by rw[hW];simp
  have k0:=cellk hbW c0;have k1:=cellk hbW c1;have HBW:=Lib.hid hbW;have HWE:=Lib.hid hW;clear hf1 hf2 ht1 ht2 hm hct hcf hlf hr hnf hb0 hc hbw c0 c1 hdi hints hml hbW hlt ih hd hrest hW h20 HS;go_enter Tryz.func96,Tryz.ntmps96
  go_upto_region 1 with fail
  rw[←HWE.out];clear HWE;go_wp2_with fail
  obtain⟨W3,hW3⟩:∃W3,W3=W.alloc (.cells #[.int .i64 a.1,.slice ea em ec] 83):=⟨_,rfl⟩
  have hal:Below W.heap.size W W3:=by rw[hW3];exact below_alloc _ _
  have z0:W3.cell? ⟨W.heap.size,0,none⟩=some (.int .i64 a.1):=by rw[hW3];simp
  have z1:W3.cell? ⟨W.heap.size,1,none⟩=some (.slice ea em ec):=by rw[hW3];simp
  replace q0:=cellk hal q0;replace q1:=cellk hal q1;replace q2:=cellk hal q2;replace q3:=cellk hal q3;have HW3:=Lib.hid (bnext HBW.out hal);rw[←hW3];clear hW3 hal k0 k1
  go_loopw [11] (fun kv wr=>∃k:Nat,k≤un∧kv=.int .i64 k∧(t.2.take k).findSome? (srch1 t.2 a rest m)=none∧Below W3.heap.size W3 wr) (fun kv _=>un-(intOf kv).toNat)
  case atStart=>exact⟨0,by omega,rfl,by simp,Below.refl _ _⟩
  case round=>
   obtain⟨wo,hwo⟩:∃x,x=wr:=⟨_,rfl⟩
   subst hwo;obtain⟨k,hk,rfl,hnone,hbs⟩:=hrel;have HBS:=Lib.hid hbs;have HWS:=Lib.hid (bnext HW3.out hbs);have r1:=cellk hbs q1;have r3:=cellk hbs q3;by_cases hltk:k<un
   ·obtain⟨b2,off2,rfl,hbw2,hc2⟩:=HCT.out (by omega);obtain⟨e2,hd2⟩:∃e2,t.2[k]?=some e2:=⟨t.2[k]'(by rw[HLT.out];exact hltk),List.getElem?_eq_getElem (by rw[HLT.out];exact hltk)⟩
    obtain⟨xa,xm,xc,d0,d1,hdi2,hints2⟩:=atomAt (n:=un) hc2 k e2 hd2;have y0:=cellk HWS.out d0;have y1:=cellk HWS.out d1;have hal2:=below_alloc wo (.cells #[.int .i64 e2.1,.slice xa xm xc] 83);have t0:=cellk hal2 (cellk hbs q0);have t1:=cellk hal2 (cellk hbs q1);have t2:=cellk hal2 (cellk hbs q2);have t3:=cellk hal2 (cellk hbs q3);have s0:=cellk hal2 (cellk hbs z0);have s1:=cellk hal2 (cellk hbs z1);have HAL2:=Lib.hid hal2;have HTK:=Lib.hid (fs_take (f:=srch1 t.2 a rest m) hd2 hnone);have HHIT:=Lib.hid (fun y=>fs_hit (f:=srch1 t.2 a rest m) (y:=y) hd2 hnone);have HI2:=Lib.hid hints2;have hk0:(0:Int)≤k:=by omega
    have hk1:(k:Int)<un:=by omega
    have hem:a.2.length=em:=by obtain⟨_,_,_,e1,e2,_⟩:=HINT.out.cases;cases e1;exact e2
    have hxm:e2.2.length=xm:=by obtain⟨_,_,_,e1,e2,_⟩:=HI2.out.cases;cases e1;exact e2
    have HEM:=Lib.hid hem;have HXM:=Lib.hid hxm;have HNOX:=Lib.hid (fun h=>srch1_no (B:=t.2) (a:=a) (rest:=rest) (m:=m) (b:=e2) h);have HYESX:=Lib.hid (fun h1 h2 h3=>srch1_yes (B:=t.2) (a:=a) (rest:=rest) (m:=m) (b:=e2) h1 h2 h3);by_cases hr1:a.1=e2.1
    ·have hr2:(a.1 != e2.1)=false:=by simp[hr1]
     by_cases hl1:em=xm
     ·have hl2:((em:Int) != xm)=false:=by simp[hl1]
      have HUN:=Lib.hid (sUnify_any (wo.alloc (.cells #[.int .i64 e2.1,.slice xa xm xc] 83)) (.slice ea em ec) (.slice xa xm xc) (.slice ma 20 mcap) a.2 e2.2 m (HINT.out.below (bnext HWS.out hal2)) (hints2.below (bnext HWS.out hal2)) (HM.out.below (bnext HWS.out hal2)) HML.out (by rw[hem,hxm,hl1]) HA20.out);have hul:=uniTo_len m a.2 e2.2 a.2.length;have HUL:Hid ((uniF m a.2 e2.2).1.length=20):=hul.trans HML.out;have HR1:=Lib.hid hr1;have HL1:Hid (a.2.length=e2.2.length):=by unfold Hid;omega
      obtain⟨p,hp⟩:∃p,(uniF m a.2 e2.2).2=p:=⟨_,rfl⟩
      rw[hp] at HUN;have HP:=Lib.hid hp;clear hc2 hbw2 d0 d1 hdi2 hints2 hbs hnone hd2 hal2 hem hxm hr1 hl1 hul hp q0 q1 q2 q3 z0 z1;go_wp2_with fail
      refine HUN.out.mono ?_;rintro e w5 ⟨xv,rfl,hxi,hb5⟩;replace t0:=cellk hb5 t0;replace t1:=cellk hb5 t1;replace t2:=cellk hb5 t2;replace t3:=cellk hb5 t3;have HB5:=Lib.hid (bnext HBS.out (bnext HAL2.out hb5));have HW5:=Lib.hid (bnext HWS.out (bnext HAL2.out hb5));have HXI:=Lib.hid hxi;clear hxi hb5
      cases p with
      |false=>
       have HN:=Lib.hid (HNOX.out (fun h=>by rw[HP.out] at h;exact absurd h.2.2 (by simp)));go_wp2_with fail
       exact⟨⟨k+1,by omega,by simp,by rw[HTK.out,HN.out],HB5.out⟩,by simp[intOf];omega⟩
      |true=>
       have HN:=Lib.hid (HYESX.out HR1.out HL1.out HP.out);go_wp2_with fail
       refine (HIH.out _ HW5.out xv _ HXI.out HUL.out _ HWR.out).mono ?_;rintro e w6 ⟨yv,bb,rfl,hfd,hb6⟩;have HB6:=Lib.hid (bnext HB5.out hb6);have HW6:=Lib.hid (bnext HW5.out hb6);clear hb6;rw[←HN.out] at hfd
       cases ho:srch1 t.2 a rest m e2 with
       |none=>
        rw[ho] at hfd;obtain rfl:bb=false:=hfd;have HO:=Lib.hid ho;clear ho;go_wp2_with fail
        exact⟨⟨k+1,by omega,by simp,by rw[HTK.out,HO.out],HB6.out⟩,by simp[intOf];omega⟩
       |some y=>
        rw[ho] at hfd;obtain⟨rfl,hyi⟩:=hfd;have HO:=Lib.hid (HHIT.out y ho);have HYI:=Lib.hid hyi;clear ho hyi;go_wp2_with fail
        go_ret2
        exact⟨yv,true,rfl,by rw[HO.out];exact⟨rfl,HYI.out⟩,HW6.out⟩
     ·have hl2:((em:Int) != xm)=true:=by simp;omega
      have HN:=Lib.hid (HNOX.out (fun h=>hl1 (by rw[←hem,←hxm];exact h.2.1)));have HB4:=Lib.hid (bnext hbs hal2);clear hc2 hbw2 d0 d1 hdi2 hints2 hbs hnone hd2 hal2 hem hxm hr1 hl1 q0 q1 q2 q3 z0 z1;go_wp2_with fail
      exact⟨⟨k+1,by omega,by simp,by rw[HTK.out,HN.out],HB4.out⟩,by simp[intOf];omega⟩
    ·have hr2:(a.1 != e2.1)=true:=by simp[hr1]
     have HN:=Lib.hid (HNOX.out (fun h=>hr1 h.1));have HB4:=Lib.hid (bnext hbs hal2);clear hc2 hbw2 d0 d1 hdi2 hints2 hbs hnone hd2 hal2 hem hxm hr1 q0 q1 q2 q3 z0 z1;go_wp2_with fail
     exact⟨⟨k+1,by omega,by simp,by rw[HTK.out,HN.out],HB4.out⟩,by simp[intOf];omega⟩
   ·obtain rfl:k=un:=by omega
    have HTK:Hid (t.2.take k=t.2):=List.take_of_length_le (by rw[HLT.out];exact Nat.le_refl _);have HN:Hid (t.2.findSome? (srch1 t.2 a rest m)=none):=by unfold Hid;rw[←hnone,HTK.out]
    clear hbs hnone;go_wp2_with fail
    go_ret2
    exact⟨.slice ma 20 mcap,false,rfl,by rw[HN.out];rfl,HWS.out⟩
theorem f7_head {s:List Int} {d:QueryD} {most:Int} (h:fineB s d most=true):∀x∈d.1,-80≤x∧x<20:=by
 unfold fineB at h;simp only[Bool.and_eq_true] at h;have h2:=h.2.1;intro x hx;unfold termsB at h2;simp only[Bool.and_eq_true] at h2;have h3:=List.all_eq_true.1 h2.1 x hx;unfold termB varB conB at h3;simp at h3;omega
theorem f7_body {s:List Int} {d:QueryD} {most:Int} (h:fineB s d most=true):∀a∈d.2,∀x∈a.2,-80≤x∧x<20:=by
 unfold fineB at h;simp only[Bool.and_eq_true] at h;intro a ha x hx;have h1:=List.all_eq_true.1 h.2.2.2.1 a ha;unfold isAtomB at h1;simp only[Bool.and_eq_true] at h1;have h2:=h1.2;unfold termsB at h2;simp only[Bool.and_eq_true] at h2;have h3:=List.all_eq_true.1 h2.1 x hx;unfold termB varB conB at h3;simp at h3;omega
theorem lit0 (W:World):Built .i64 3 W (W.alloc (.cells #[] 3)) (.slice (some ⟨W.heap.size,0,none⟩) 0 0) []:=by
 have:=Built.lit .i64 3 W W [] (Nat.zero_le _) (Below.refl _ _);simpa using this
def fmN (s:List Int) (f t:QueryD):Option (List Int):=if (fineB s f 4&&fineB s t 4)=true then findN f t else none
theorem findN_len {f t:QueryD} {y:List Int} (h:findN f t=some y):y.length=20:=by
 unfold findN at h
 split at h
 ·rw[srch_len h];exact (uniTo_len _ _ _ _).trans (by simp)
 ·cases h
set_option maxRecDepth 100000 in
set_option maxHeartbeats 4000000 in
theorem sFind7_any (w:World) (vf vt:Value) (f t:QueryD) (hf:RdQuery w vf f) (ht:RdQuery w vt t) (h1:∀x∈f.1,x<20) (h2:∀a∈f.2,∀x∈a.2,x<20) :
  Calls Tryz.prog 42 #[vf,vt] w (fun e w'=>∃yv,e=.returned (.tuple #[yv,.bool (findN f t).isSome])∧Ints w' yv ((findN f t).getD [])∧Below w.heap.size w w'):=by
 have HSR:=Lib.hid (fun (W:World) (hb:Below w.heap.size w W) xv x hx hxl=>sSearch7_any vf vt f t h2 f.2.length 0 0 rfl (by omega) W xv x (RdQuery.below hf hb) (RdQuery.below ht hb) hx hxl);obtain⟨fa,fn,fc,ga,gn,gc,rfl,hf1,hf2⟩:=hf;obtain⟨ta,tn,tc,ua,un,uc,rfl,ht1,ht2⟩:=ht;have hfl:f.1.length=fn:=by obtain⟨_,_,_,e1,e2,_⟩:=hf1.cases;cases e1;exact e2
 have htl:t.1.length=tn:=by obtain⟨_,_,_,e1,e2,_⟩:=ht1.cases;cases e1;exact e2
 have hb0:∀a b,Below w.heap.size w ((w.alloc a).alloc b):=fun a b=>((Below.refl _ _).alloc (Nat.le_refl _) _).alloc (by simp) _
 have HB0:=Lib.hid hb0;have HF1:=Lib.hid hf1;have HT1:=Lib.hid ht1;have H1:=Lib.hid h1;have HFL:=Lib.hid hfl;have HTL:=Lib.hid htl;obtain⟨W,hW⟩:∃W,W=((w.alloc (.cells #[.slice fa fn fc,.slice ga gn gc] 29)).alloc (.cells #[.slice ta tn tc,.slice ua un uc] 29)):=⟨_,rfl⟩
 have hbW:Below w.heap.size w W:=by rw[hW];exact hb0 _ _
 have q0:W.cell? ⟨w.heap.size,0,none⟩=some (.slice fa fn fc):=by rw[hW];simp
 have q1:W.cell? ⟨w.heap.size,1,none⟩=some (.slice ga gn gc):=by rw[hW];simp
 have q2:W.cell? ⟨w.heap.size+1,0,none⟩=some (.slice ta tn tc):=by rw[hW];simp
 have q3:W.cell? ⟨w.heap.size+1,1,none⟩=some (.slice ua un uc):=by rw[hW];simp
 have HBW:=Lib.hid hbW;have HWE:=Lib.hid hW;by_cases hl:fn=tn
 ·have hl2:((fn:Int) != tn)=false:=by simp[hl]
  have HLL:Hid (f.1.length=t.1.length):=by unfold Hid;omega
  obtain⟨p,hp⟩:∃p,(uniF unm20 f.1 t.1).2=p:=⟨_,rfl⟩
  have HP:=Lib.hid hp;have HUL:Hid ((uniF unm20 f.1 t.1).1.length=20):=(uniTo_len _ _ _ _).trans (by simp[unm20]);clear hf1 hf2 ht1 ht2 h1 h2 hfl htl hb0 hW hbW hl hp;go_enter Tryz.func42,Tryz.ntmps42
  go_upto_region 1 with fail
  rw[←HWE.out];clear HWE;go_upto_region 3 with fail
  have HDR:=Lib.hid ((Below.refl W.heap.size W).drew);have HCE:=Lib.hid (fun (wz:World)=>sEmpty7_any wz);have HCU:=Lib.hid (fun (wz:World) (hb:Below W.heap.size W wz) xv (hx:Ints wz xv unm20)=>sUnify_any wz (.slice fa fn fc) (.slice ta tn tc) xv f.1 t.1 unm20 ((HF1.out.below HBW.out).below hb) ((HT1.out.below HBW.out).below hb) hx (by simp[unm20]) HLL.out H1.out);rw[HP.out] at HCU
  go_cut [6,7] (fun q6 q7 wx=>q7=.bool p∧Ints wx q6 (uniF unm20 f.1 t.1).1∧Below W.heap.size W wx)
  case first=>
   go_region_law (first
    |(go_simp;go_at_call 95;refine (HCE.out _).mono ?_;rintro e2 w2 ⟨vb,bsb,rfl,hob,hfb,hbb⟩;have HB2:=Lib.hid (show Below W.heap.size W w2 from bnext HDR.out hbb);have k0:=cellk HB2.out q0;have k1:=cellk HB2.out q1;have k2:=cellk HB2.out q2;have k3:=cellk HB2.out q3;have HOB:=Lib.hid hob.1)
    |(go_simp;go_at_call 94;refine (HCU.out _ HB2.out _ HOB.out).mono ?_;rintro e3 w3 ⟨xv,rfl,hxi,hb3⟩;have HB3:=Lib.hid (bnext HB2.out hb3);have HXI:=Lib.hid hxi))
   all_goals (go_wp2_with fail;go_meet;exact⟨rfl,HXI.out,HB3.out⟩)
  case rest=>
   obtain⟨rfl,hxi,hb⟩:=hcut;obtain⟨W1,hw⟩:∃W1,W1=wc:=⟨_,rfl⟩
   subst hw;replace q0:=cellk hb q0;replace q1:=cellk hb q1;replace q2:=cellk hb q2;replace q3:=cellk hb q3;have HW1:=Lib.hid (bnext HBW.out hb);have HXI:=Lib.hid hxi;clear hb hxi
   cases p with
   |false=>
    have HN:Hid (findN f t=none):=by unfold Hid findN;rw[if_neg (fun h=>by have:=HP.out;unfold unm20 at this;rw[h.2] at this;cases this)]
    have HLIT:=Lib.hid (lit0 W1);go_wp2_with fail
    go_ret2
    exact⟨_,by rw[HN.out];rfl,by rw[HN.out];exact Ints.ofBuilt HLIT.out (fun x hx=>by simp at hx),bnext HW1.out HLIT.out.below⟩
   |true=>
    have HN:Hid (findN f t=srch t.2 f.2 (uniF unm20 f.1 t.1).1):=by unfold Hid findN;rw[if_pos ⟨HLL.out,HP.out⟩];rfl
    have HN2:=Lib.hid (fun y (h:findN f t=some y)=>findN_len h);go_wp2_with fail
    refine (HSR.out _ HW1.out _ _ HXI.out HUL.out).mono ?_;rintro e w6 ⟨yv,bb,rfl,hfd,hb6⟩;have HW6:=Lib.hid (bnext HW1.out hb6);clear hb6;rw[List.drop_zero,←HN.out] at hfd
    cases ho:findN f t with
    |none=>
     rw[ho] at hfd;obtain rfl:bb=false:=hfd;have HO:=Lib.hid ho;have HLIT:=Lib.hid (lit0 w6);clear ho;go_wp2_with fail
     go_ret2
     exact⟨_,by rw[HO.out];rfl,by rw[HO.out];exact Ints.ofBuilt HLIT.out (fun x hx=>by simp at hx),bnext HW6.out HLIT.out.below⟩
    |some y=>
     rw[ho] at hfd;obtain⟨rfl,hyi⟩:=hfd;have HO:=Lib.hid ho;have HLY:=Lib.hid (HN2.out y ho);have HYB:=Lib.hid (hyi.below (below_alloc w6 (.cells #[] 3)));have HYI:=Lib.hid hyi.1;have HLIT:=Lib.hid (lit0 w6);clear ho hyi;go_wp2_with (at_builtin;refine wpList_appInts rfl (.tmp 40) (.tmp 41) 24 rfl 3 Tryz.underlying24 info_i64 _ [] rfl HLIT.out _ y rfl HYB.out (by rw[HLY.out];simp) ?_)
     intro v1 w7 hb1;have HB7:Hid (Built .i64 3 w6 w7 v1 y):=by first|exact hb1|(have h:=hb1;rw[List.nil_append] at h;exact h)
     clear hb1;go_wp2_with fail
     go_ret2
     exact⟨_,by rw[HO.out];rfl,by rw[HO.out];exact Ints.ofBuilt HB7.out HYI.out,bnext HW6.out HB7.out.below⟩
 ·have hl2:((fn:Int) != tn)=true:=by simp;omega
  have HN:Hid (findN f t=none):=by unfold Hid findN;rw[if_neg (fun h=>hl (by rw[←hfl,←htl];exact h.1))]
  have HLIT:=Lib.hid (lit0 W);clear hf1 hf2 ht1 ht2 h1 h2 hfl htl hb0 hW hbW hl;go_enter Tryz.func42,Tryz.ntmps42
  go_upto_region 1 with fail
  rw[←HWE.out];clear HWE;go_wp2_with fail
  go_ret2
  exact⟨_,by rw[HN.out];rfl,by rw[HN.out];exact Ints.ofBuilt HLIT.out (fun x hx=>by simp at hx),bnext HBW.out HLIT.out.below⟩
end Go.Proofs.YtpedpbbiamhgdaaGreatDoor
namespace Go.Proofs.YtpedpbbiamhgdaaGreatDoor
open Go Go.RowKit
set_option linter.unusedVariables false
def Grows (m M:List Int):Prop:=M.length=m.length∧∀k:Nat,m.getD k 0≠-1000→M.getD k 0=m.getD k 0
theorem Grows.refl (m:List Int):Grows m m:=⟨rfl,fun _ _=>rfl⟩
theorem Grows.trans {a b c:List Int} (h:Grows a b) (k:Grows b c):Grows a c:=⟨k.1.trans h.1,fun j hj=>(k.2 j (by rw[h.2 j hj];exact hj)).trans (h.2 j hj)⟩
def asg (M:List Int) (t u:Int):Prop:=(t<0∧t=u)∨∃k:Nat,t=(k:Int)∧k<M.length∧M.getD k 0=u∧u≠-1000
theorem asg.grow {m M:List Int} {t u:Int} (h:asg m t u) (g:Grows m M):asg M t u:=by
 rcases h with h|⟨k,h1,h2,h3,h4⟩
 ·exact .inl h
 ·exact .inr ⟨k,h1,by rw[g.1];exact h2,(g.2 k (by rw[h3];exact h4)).trans h3,h4⟩
theorem getD_set7b (m:List Int) (k j:Nat) (u:Int) (hk:k<m.length):(m.set k u).getD j 0=if j=k then u else m.getD j 0:=by
 rw[List.getD_eq_getElem?_getD,List.getD_eq_getElem?_getD,List.getElem?_set];by_cases h:k=j
 ·subst h;simp[hk]
 ·rw[if_neg h,if_neg (fun e=>h e.symm)]
theorem uni1_ok {m:List Int} {t u:Int} (hm:m.length=20) (ht:t<20) (hu:u≠-1000) (h:(uni1 m t u).2=true):Grows m (uni1 m t u).1∧asg (uni1 m t u).1 t u:=by
 by_cases h0:t<0
 ·rw[uni1_neg h0] at h ⊢;exact⟨Grows.refl m,.inl ⟨h0,of_decide_eq_true h⟩⟩
 ·obtain⟨k,rfl⟩:=Int.eq_ofNat_of_zero_le (by omega:0≤t);have hk:k<m.length:=by omega
  by_cases hy:m.getD k 0=-1000
  ·rw[uni1_new hy];refine⟨⟨by simp,fun j hj=>?_⟩,.inr ⟨k,rfl,by simpa using hk,?_,hu⟩⟩
   ·show (m.set k u).getD j 0=_;rw[getD_set7b _ _ _ _ hk,if_neg (fun e=>by subst e;exact hj hy)]
   ·show (m.set k u).getD k 0=_;rw[getD_set7b _ _ _ _ hk,if_pos rfl]
  ·rw[uni1_old hy] at h ⊢;exact⟨Grows.refl m,.inr ⟨k,rfl,hk,of_decide_eq_true h,hu⟩⟩
theorem uniTo_ok {m f t:List Int} (hm:m.length=20) (hf:∀x∈f,x<20) (ht:∀x∈t,x≠-1000):∀i,(uniTo m f t i).2=true→Grows m (uniTo m f t i).1∧∀j,j<i→asg (uniTo m f t i).1 (f.getD j 0) (t.getD j 0)
 |0,_=>⟨Grows.refl m,fun j hj=>by omega⟩
 |i+1,h=>by
  cases hb:(uniTo m f t i).2 with
  |false=>rw[uniTo_no hb,hb] at h;cases h
  |true=>
   obtain⟨ih1,ih2⟩:=uniTo_ok hm hf ht i hb;rw[uniTo_yes hb] at h ⊢;obtain⟨g1,g2⟩:=uni1_ok (by rw[uniTo_len];exact hm) (getD_all7 (p:=fun x=>x<20) hf (by omega) i) (getD_all7 (p:=fun x=>x≠-1000) ht (by omega) i) h;refine⟨ih1.trans g1,fun j hj=>?_⟩;rcases Nat.lt_or_ge j i with h1|h1
   ·exact (ih2 j h1).grow g1
   ·obtain rfl:j=i:=by omega
    exact g2
theorem uni1_in {m H:List Int} {t u:Int} (hm:m.length=20) (g:Grows m H) (h:asg H t u):(uni1 m t u).2=true∧Grows (uni1 m t u).1 H:=by
 rcases h with⟨h1,h2⟩|⟨k,rfl,h2,h3,h4⟩
 ·rw[uni1_neg h1];exact⟨decide_eq_true h2,g⟩
 ·have hk:k<m.length:=by rw[←g.1];exact h2
  by_cases hy:m.getD k 0=-1000
  ·rw[uni1_new hy];refine⟨rfl,by simpa using g.1,fun j hj=>?_⟩
   change (m.set k u).getD j 0≠-1000 at hj
   show H.getD j 0=(m.set k u).getD j 0;rw[getD_set7b _ _ _ _ hk] at hj ⊢;by_cases e:j=k
   ·subst e;rw[if_pos rfl];exact h3
   ·rw[if_neg e] at hj ⊢;exact g.2 j hj
  ·rw[uni1_old hy];exact⟨decide_eq_true (by rw[←g.2 k hy];exact h3),g⟩
theorem uniTo_in {m H f t:List Int} (hm:m.length=20) (g:Grows m H):∀i,(∀j,j<i→asg H (f.getD j 0) (t.getD j 0))→(uniTo m f t i).2=true∧Grows (uniTo m f t i).1 H
 |0,_=>⟨rfl,g⟩
 |i+1,h=>by
  obtain⟨h1,h2⟩:=uniTo_in hm g i (fun j hj=>h j (by omega));rw[uniTo_yes h1];exact uni1_in (by rw[uniTo_len];exact hm) h2 (h i (by omega))
def toAt (M:List Int) (a b:AtomD):Prop:=a.1=b.1∧a.2.length=b.2.length∧∀j,j<a.2.length→asg M (a.2.getD j 0) (b.2.getD j 0)
theorem srch_ok {B:List AtomD} (hB:∀b∈B,∀x∈b.2,x≠-1000):∀{F:List AtomD} {m y:List Int},m.length=20→(∀a∈F,∀x∈a.2,x<20)→srch B F m=some y→Grows m y∧∀a∈F,∃b∈B,toAt y a b
 |[],m,y,_,_,h=>by cases h;exact⟨Grows.refl m,fun a ha=>by cases ha⟩
 |a::rest,m,y,hm,hF,h=>by
  rw[srch_cons] at h;obtain⟨b,hb,h1⟩:=List.exists_of_findSome?_eq_some h;unfold srch1 at h1
  split at h1
  ·rename_i hc
   have hlen:(uniF m a.2 b.2).1.length=20:=(uniTo_len _ _ _ _).trans hm;obtain⟨g1,g2⟩:=uniTo_ok (i:=a.2.length) hm (hF a (List.mem_cons_self ..)) (hB b hb) hc.2.2;obtain⟨k1,k2⟩:=srch_ok hB hlen (fun x hx=>hF x (List.mem_cons_of_mem _ hx)) h1;refine⟨g1.trans k1,fun x hx=>?_⟩;rcases List.mem_cons.1 hx with rfl|hx
   ·exact⟨b,hb,hc.1,hc.2.1,fun j hj=>(g2 j hj).grow k1⟩
   ·exact k2 x hx
  ·cases h1
theorem srch_some {B:List AtomD} {H:List Int}:∀{F:List AtomD} {m:List Int},m.length=20→Grows m H→(∀a∈F,∃b∈B,toAt H a b)→∃y,srch B F m=some y
 |[],m,_,_,_=>⟨m,rfl⟩
 |a::rest,m,hm,g,h=>by
  obtain⟨b,hb,h1,h2,h3⟩:=h a (List.mem_cons_self ..);obtain⟨u1,u2⟩:=uniTo_in (m:=m) (f:=a.2) (t:=b.2) hm g a.2.length h3;obtain⟨y,hy⟩:=srch_some (B:=B) (F:=rest) (m:=(uniF m a.2 b.2).1) ((uniTo_len _ _ _ _).trans hm) u2 (fun x hx=>h x (List.mem_cons_of_mem _ hx));rw[srch_cons]
  cases hn:B.findSome? (srch1 B a rest m) with
  |some z=>exact⟨z,rfl⟩
  |none=>
   have:=List.findSome?_eq_none_iff.1 hn b hb;rw[srch1] at this;rw[if_pos ⟨h1,h2,u1⟩,hy] at this
   cases this
structure Full (M:List Int) (a b:QueryD):Prop where
 len:M.length=20
 hlen:a.1.length=b.1.length
 head:∀j,j<a.1.length→asg M (a.1.getD j 0) (b.1.getD j 0)
 body:∀x∈a.2,∃z∈b.2,toAt M x z
theorem findN_ok {a b:QueryD} {y:List Int} (h1:∀x∈a.1,x<20) (h2:∀c∈a.2,∀x∈c.2,x<20) (h3:∀x∈b.1,x≠-1000) (h4:∀c∈b.2,∀x∈c.2,x≠-1000) (h:findN a b=some y):Full y a b:=by
 unfold findN at h
 split at h
 ·rename_i hc
  have hl:(uniF (List.replicate 20 (-1000)) a.1 b.1).1.length=20:=(uniTo_len _ _ _ _).trans (by simp);obtain⟨g1,g2⟩:=uniTo_ok (i:=a.1.length) (m:=List.replicate 20 (-1000)) (by simp) h1 h3 hc.2;obtain⟨k1,k2⟩:=srch_ok h4 hl h2 h;exact⟨k1.1.trans hl,hc.1,fun j hj=>(g2 j hj).grow k1,k2⟩
 ·cases h
end Go.Proofs.YtpedpbbiamhgdaaGreatDoor
