import Derived.Test.YtpedpbbiamhgdaaGreatDoorU8all
import Derived.Test.YtpedpbbiamhgdaaGreatDoorS7M
import Derived.Test.YtpedpbbiamhgdaaGreatDoorBase
import Derived.Defers
import Derived.Deep.CutRange
import Derived.Deep.RegionHeld3
import Derived.Test.YtpedpbbiamhgdaaGreatDoorI5copy
import Derived.Test.YtpedpbbiamhgdaaGreatDoorShelf
import Derived.Test.YtpedpbbiamhgdaaGreatDoorIrAll
import Derived.Test.YtpedpbbiamhgdaaGreatDoorLawK
namespace Go.Proofs.YtpedpbbiamhgdaaGreatDoor
open Go Go.Sort Go.RowKit
set_option linter.unusedVariables false
def Ext (m0 mp0 m mp:List Int):Prop:=m.length=m0.length∧∃L,mp=mp0++L∧(∀j:Nat,(j:Int)∉L→m.getD j 0=m0.getD j 0)∧∀v∈L,∃k:Nat,v=(k:Int)∧k<m0.length∧m0.getD k 0=-1000
theorem Ext.refl (m mp:List Int):Ext m mp m mp:=⟨rfl,[],by simp,fun j _=>rfl,fun v hv=>by cases hv⟩
theorem getD_set7 (m:List Int) (k j:Nat) (u:Int) (hk:k<m.length):(m.set k u).getD j 0=if j=k then u else m.getD j 0:=by
 rw[List.getD_eq_getElem?_getD,List.getD_eq_getElem?_getD,List.getElem?_set];by_cases h:k=j
 ·subst h;simp[hk]
 ·rw[if_neg h,if_neg (fun e=>h e.symm)]
theorem Ext.set {m0 mp0 m mp:List Int} (h:Ext m0 mp0 m mp) {k:Nat} {u:Int} (hk:k<m.length) (h1:m.getD k 0=-1000):Ext m0 mp0 (m.set k u) (mp++[(k:Int)]):=by
 obtain⟨h2,L,rfl,h3,h4⟩:=h;refine⟨by simp[h2],L++[(k:Int)],by simp,fun j hj=>?_,fun v hv=>?_⟩
 ·have hj1:(j:Int)∉L:=fun hm=>hj (List.mem_append.2 (.inl hm))
  have hj2:j≠k:=fun e=>hj (List.mem_append.2 (.inr (by simp[e])))
  rw[getD_set7 _ _ _ _ hk,if_neg hj2];exact h3 j hj1
 ·rcases List.mem_append.1 hv with hv|hv
  ·exact h4 v hv
  ·refine⟨k,by simpa using hv,by omega,?_⟩;by_cases hm:(k:Int)∈L
   ·obtain⟨k',e,_,h6⟩:=h4 _ hm;have:k=k':=by omega
    subst this;exact h6
   ·rw[←h3 k hm];exact h1
structure MS (W0 w:World) (X MB:Nat) (av mv:Value) (m mp:List Int):Prop where
 c0:w.cell? ⟨X,0,none⟩=some av
 c1:w.cell? ⟨X,1,none⟩=some (.slice (some ⟨MB,0,none⟩) 20 20)
 c2:w.cell? ⟨X,2,none⟩=some mv
 f2:w.frozen? ⟨X,2,none⟩=false
 bm:Built .i64 3 W0 w (.slice (some ⟨MB,0,none⟩) 20 20) m
 bp:Built .i64 3 W0 w mv mp
 n1:X≠MB
 n2:X∉blk mv
 n3:MB∉blk mv
 lo:W0.heap.size≤X
 lt:X<w.heap.size
 len:m.length=20
 ml:mp.length≤1099511627775
 mi:∀x∈m,inI x
theorem built_onlyAt {W0 w w':World} {v:Value} {l:List Int} {bs:List Nat} (h:Built .i64 3 W0 w v l) (ko:OnlyAt bs w w') (hW:∀b∈bs,W0.heap.size≤b) (hn:∀b∈blk v,b∉bs):Built .i64 3 W0 w' v l:=by
 refine⟨⟨h.1.1,?_⟩,OnlyAt.below h.2 ko hW⟩;rcases h.1.2 with h1|⟨g,cap,cur,rfl,h1,hg,h2⟩
 ·exact .inl h1
 ·exact .inr ⟨g,cap,cur,rfl,h1,by rw[ko.block g (Array.getElem?_eq_some_iff.1 hg).1 (hn g (by simp[blk]))];exact hg,h2⟩
theorem MS.mb {W0 w:World} {X MB:Nat} {av mv:Value} {m mp:List Int} (h:MS W0 w X MB av mv m mp):W0.heap.size≤MB∧MB<w.heap.size:=BuiltC.lt h.bm
theorem MS.below {W0 w:World} {X MB:Nat} {av mv:Value} {m mp:List Int} (h:MS W0 w X MB av mv m mp):Below W0.heap.size W0 w:=h.bm.below
theorem MS.blks {W0 w:World} {X MB:Nat} {av mv:Value} {m mp:List Int} (h:MS W0 w X MB av mv m mp):∀b∈blk mv,W0.heap.size≤b∧b<w.heap.size:=by
 intro b hb;rcases BuiltC.form h.bp with⟨rfl,_⟩|⟨g,cap,rfl,_⟩
 ·simp[blk] at hb
 ·simp[blk] at hb;subst hb;exact BuiltC.lt h.bp
theorem MS.grow {W0 w w':World} {X MB:Nat} {av mv:Value} {m mp:List Int} (h:MS W0 w X MB av mv m mp) (hb:Below w.heap.size w w'):MS W0 w' X MB av mv m mp:=
 ⟨cellk hb h.c0,cellk hb h.c1,cellk hb h.c2,frok hb h.c2 h.f2,h.bm.grow hb,h.bp.grow hb,h.n1,h.n2,h.n3,h.lo,Nat.lt_of_lt_of_le h.lt hb.size,h.len,h.ml,h.mi⟩
theorem apM_set {m:List Int} {k:Nat} {u:Int} (hk:k<m.length) (hu:u≠-1000):apM (m.set k u) (k:Int)=u:=by
 rw[apM_at (by simpa using hk),getD_set7 _ _ _ _ hk,if_pos rfl,if_neg hu]
theorem MS.step {W0 w w2 w3:World} {X MB:Nat} {av mv v':Value} {m mp:List Int} (h:MS W0 w X MB av mv m mp) {k:Nat} {u:Int} (hk:k<20) (hui:inI u)
  (hB:Built .i64 3 W0 w2 v' (mp++[(k:Int)])) (ko:OnlyAt (blk mv) (w.setCell ⟨MB,k,none⟩ (.int .i64 u)) w2) (hbl:∀b∈blk v',b∈blk mv∨(w.setCell ⟨MB,k,none⟩ (.int .i64 u)).heap.size≤b) (hml:mp.length+1≤1000000) (e3:w3=w2.setCell ⟨X,2,none⟩ v') :
  MS W0 w3 X MB av v' (m.set k u) (mp++[(k:Int)]):=by
 subst e3;obtain⟨hm1,hm2⟩:=h.mb;have hlt:=h.lt;have hsz:(w.setCell ⟨MB,k,none⟩ (.int .i64 u)).heap.size=w.heap.size:=by simp[World.setCell]
 have hsz2:=ko.size;rw[hsz] at hsz2 hbl;have o1:OnlyAt [MB] w (w.setCell ⟨MB,k,none⟩ (.int .i64 u)):=OnlyAt.setCell _ _ _ _;have o3:OnlyAt [X] w2 (w2.setCell ⟨X,2,none⟩ v'):=OnlyAt.setCell _ _ _ _;have x0:=ko.cell h.n2 (o1.cell (by simpa using h.n1) h.c0);have x1:=ko.cell h.n2 (o1.cell (by simpa using h.n1) h.c1);have x2:=ko.cell h.n2 (o1.cell (by simpa using h.n1) h.c2);have xf:=ko.frozen (by rw[hsz];exact hlt) h.n2 (o1.frozen hlt (by simpa using h.n1) h.f2);have bm1:Built .i64 3 W0 (w.setCell ⟨MB,k,none⟩ (.int .i64 u)) (.slice (some ⟨MB,0,none⟩) 20 20) (m.set k u):=h.bm.store h.len.symm k u;have bm2:=built_onlyAt bm1 ko (fun b hb=>(h.blks b hb).1) (fun b hb=>by simp[blk] at hb;subst hb;exact h.n3)
 have hX:∀b∈blk v',b≠X:=fun b hb e=>by
  subst e;rcases hbl _ hb with h1|h1
  ·exact h.n2 h1
  ·omega
 have hM:∀b∈blk v',b≠MB:=fun b hb e=>by
  subst e;rcases hbl _ hb with h1|h1
  ·exact h.n3 h1
  ·omega
 refine⟨?_,?_,World.cell?_setCell_same _ _ _ x2,by rw[World.frozen?_setCell];exact xf,built_onlyAt bm2 o3 (fun b hb=>by simp at hb;subst hb;exact h.lo) (fun b hb=>by simp[blk] at hb;subst hb;simpa using fun e=>h.n1 e.symm),built_onlyAt hB o3 (fun b hb=>by simp at hb;subst hb;exact h.lo) (fun b hb=>by simpa using hX b hb),h.n1,fun hm=>hX _ hm rfl,fun hm=>hM _ hm rfl,h.lo,Nat.lt_of_lt_of_le hlt (Nat.le_trans hsz2 o3.size),by simpa using h.len,by simp;omega,fun x hx=>?_⟩
 ·exact (World.cell?_setCell_other _ _ _ _ (fun e=>by cases e)).trans x0
 ·exact (World.cell?_setCell_other _ _ _ _ (fun e=>by cases e)).trans x1
 ·rcases List.mem_or_eq_of_mem_set hx with h1|h1
  ·exact h.mi x h1
  ·rw[h1];exact hui
set_option maxRecDepth 100000 in
set_option maxHeartbeats 4000000 in
theorem iTurn_any (W0 w:World) (X MB:Nat) (av mv:Value) (m mp:List Int) (h:MS W0 w X MB av mv m mp) (t u:Int) (ht:t<20) (hti:inI t) (hu:u≠-1000) (hui:inI u) (hml:mp.length+1≤1000000) :
  Calls Tryz.prog 175 #[.pointer (some ⟨X,0,none⟩),.int .i64 t,.int .i64 u] w (fun e w'=>∃mv' mp',e=.returned (.bool (uni1 m t u).2)∧MS W0 w' X MB av mv' (uni1 m t u).1 mp'∧(∀m0 mp0,Ext m0 mp0 m mp→Ext m0 mp0 (uni1 m t u).1 mp')∧mp'.length≤mp.length+1∧w.heap.size≤w'.heap.size):=by
 have H:=Lib.hid h;have HV:=Lib.hid (fun w=>iIsVar_any t w);have c1:=h.c1;by_cases h0:t<0
 ·have hv:varB t=false:=varB_no (by omega);have HA:=Lib.hid (fun hi=>iApply_any w t (.slice (some ⟨MB,0,none⟩) 20 20) m hi);have hap:apM m t=t:=apM_out (.inl h0);rw[hap] at HA;have HI:Hid (Ints w (.slice (some ⟨MB,0,none⟩) 20 20) m):=Ints.ofBuilt h.bm h.mi;have HU:=Lib.hid (uni1_neg (m:=m) (u:=u) h0);have HBE:Hid ((t==u)=decide (t=u)):=rfl;rw[hv] at HV;clear h h0 hv hap ht hti hu hui hml;go_enter Tryz.func175,Tryz.ntmps175
  go_wp2_with fail
  refine (HV.out _).mono ?_;rintro e w1 ⟨rfl,rfl⟩;go_wp2_with fail
  refine (HA.out HI.out).mono ?_;rintro e w2 ⟨rfl,rfl⟩;go_wp2_with fail
  go_ret;exact⟨mv,mp,by rw[HU.out];rfl,by rw[HU.out];exact H.out,fun m0 mp0 hx=>by rw[HU.out];exact hx,by omega,Nat.le_refl _⟩
 ·obtain⟨k,rfl⟩:=Int.eq_ofNat_of_zero_le (by omega:0≤t);have hk:k<20:=by omega
  have hk0:(0:Int)≤k:=by omega
  have hk1:(k:Int)<20:=by omega
  have hv:varB (k:Int)=true:=varB_yes (by omega) (by omega);rw[hv] at HV;have hcell:=(h.len.symm ▸ h.bm:Built .i64 3 W0 w (.slice (some ⟨MB,0,none⟩) m.length 20) m).cell k (by rw[h.len];exact hk);have hfr:=h.bm.frozen h.len.symm k;by_cases hy:m.getD k 0=-1000
  ·have HU:=Lib.hid (uni1_new (m:=m) (k:=k) (u:=u) hy);rw[hy] at hcell;have hst:=h.bm.store h.len.symm k u;have o1:OnlyAt [MB] w (w.setCell ⟨MB,k,none⟩ (.int .i64 u)):=OnlyAt.setCell _ _ _ _;have d2:=o1.cell (by simpa using h.n1) h.c2;have bp1:=built_onlyAt h.bp o1 (fun b hb=>by simp at hb;subst hb;exact h.mb.1) (fun b hb=>by simp;intro e;subst e;exact h.n3 hb);have HBP:=Lib.hid bp1;have d2f:=o1.frozen h.lt (by simpa using h.n1) h.f2;have d1:=o1.cell (by simpa using h.n1) h.c1;have hmn:=h.n2;have hXlt:X<(w.setCell ⟨MB,k,none⟩ (.int .i64 u)).heap.size:=by simp[World.setCell];exact h.lt
   obtain⟨w1,hw1⟩:∃w1,w1=w.setCell ⟨MB,k,none⟩ (.int .i64 u):=⟨_,rfl⟩
   have HW1:=Lib.hid hw1;rw[←hw1] at d2 d2f d1 hXlt HBP;have HK20:=Lib.hid hk;have HML:=Lib.hid hml;have HEX:=Lib.hid (fun m0 mp0 (hx:Ext m0 mp0 m mp)=>hx.set (u:=u) (k:=k) (by rw[h.len];exact hk) hy);have HAP:=Lib.hid (apM_set (m:=m) (k:=k) (u:=u) (by rw[h.len];exact hk) hu);have HUI:=Lib.hid hui;have hn5:mp.length+1≤1099511627776:=by omega
   clear h hy hst o1 bp1 hw1 hv ht hti hu hui hml h0;go_enter Tryz.func175,Tryz.ntmps175
   go_wp2_with fail
   refine (HV.out _).mono ?_;rintro e w9 ⟨rfl,rfl⟩;go_upto_region 3 with fail
   rw[←HW1.out];go_wp2_with (at_builtin;refine wpList_app1D rfl (.tmp 30) (.tmp 32) 24 rfl 3 (.int .i64 0) 1 8 Tryz.underlying24 info_i64 (by decide) (by decide) (by rfl) mv mp.length (mp.map (Value.int .i64)) rfl HBP.out [.int .i64 (k:Int)] rfl (by simp[Value.oneCell']) (by first|rfl|(simp;rfl)) hn5 ?_)
   intro v' w2 hown' ko hbl
   obtain⟨vg,vcap,rfl⟩:∃vg vcap,v'=.slice (some ⟨vg,0,none⟩) (mp.length+1) vcap:=by
    rcases BuiltC.form hown' with⟨_,h0⟩|⟨g,cp,h,_⟩
    ·omega
    ·exact⟨g,cp,h⟩
   have y2:=ko.cell hmn d2;have yf:=ko.frozen hXlt hmn d2f;have hNEW:Built .i64 3 W0 w2 (.slice (some ⟨vg,0,none⟩) (mp.length+1) vcap) (mp++[(k:Int)]):=Built.ofC hown';have HMS:Hid (MS W0 (w2.setCell ⟨X,2,none⟩ (.slice (some ⟨vg,0,none⟩) (mp.length+1) vcap)) X MB av (.slice (some ⟨vg,0,none⟩) (mp.length+1) vcap) (m.set k u) (mp++[(k:Int)])):=H.out.step HK20.out HUI.out hNEW (by rw[←HW1.out];exact ko) (by rw[←HW1.out];exact hbl) HML.out rfl;have z1:=HMS.out.c1;have HI:Hid (Ints (w2.setCell ⟨X,2,none⟩ (.slice (some ⟨vg,0,none⟩) (mp.length+1) vcap)) (.slice (some ⟨MB,0,none⟩) 20 20) (m.set k u)):=Ints.ofBuilt HMS.out.bm HMS.out.mi;have HA:=Lib.hid (iApply_any (w2.setCell ⟨X,2,none⟩ (.slice (some ⟨vg,0,none⟩) (mp.length+1) vcap)) (k:Int) (.slice (some ⟨MB,0,none⟩) 20 20) (m.set k u) HI.out);rw[HAP.out] at HA
   have HSZ:Hid (w.heap.size≤(w2.setCell ⟨X,2,none⟩ (.slice (some ⟨vg,0,none⟩) (mp.length+1) vcap)).heap.size):=by
    have h1:=ko.size;have h2:w1.heap.size=w.heap.size:=by rw[HW1.out];simp[World.setCell]
    have h3:(w2.setCell ⟨X,2,none⟩ (.slice (some ⟨vg,0,none⟩) (mp.length+1) vcap)).heap.size=w2.heap.size:=by simp[World.setCell]
    unfold Hid;omega
   clear hown' ko hbl hNEW hcell hfr c1;go_wp2_with fail
   refine HA.out.mono ?_;rintro e w5 ⟨rfl,rfl⟩;go_wp2_with fail
   go_ret;exact⟨(.slice (some ⟨vg,0,none⟩) (mp.length+1) vcap),mp++[(k:Int)],by rw[HU.out];simp,by rw[HU.out];exact HMS.out,fun m0 mp0 hx=>by rw[HU.out];exact HEX.out m0 mp0 hx,by simp,HSZ.out⟩
  ·have HU:=Lib.hid (uni1_old (m:=m) (k:=k) (u:=u) hy);have hy2:(m.getD k 0 == -1000)=false:=by simpa using hy
   have HA:=Lib.hid (iApply_any w (k:Int) (.slice (some ⟨MB,0,none⟩) 20 20) m (Ints.ofBuilt h.bm h.mi));rw[apM_at (by rw[h.len];exact hk),if_neg hy] at HA;obtain⟨y,hyy⟩:∃y,m.getD k 0=y:=⟨_,rfl⟩
   rw[hyy] at HA HU hy2 hcell;have HBE:Hid ((y==u)=decide (y=u)):=rfl;clear h hy hyy hv ht hti hu hui hml h0 hfr;go_enter Tryz.func175,Tryz.ntmps175
   go_wp2_with fail
   refine (HV.out _).mono ?_;rintro e w9 ⟨rfl,rfl⟩;go_wp2_with fail
   refine HA.out.mono ?_;rintro e w5 ⟨rfl,rfl⟩;go_wp2_with fail
   go_ret;exact⟨mv,mp,by rw[HU.out];rfl,by rw[HU.out];exact H.out,fun m0 mp0 hx=>by rw[HU.out];exact hx,by omega,Nat.le_refl _⟩
set_option maxRecDepth 100000 in
set_option maxHeartbeats 4000000 in
theorem iTurnAll_any (W0 w:World) (X MB:Nat) (av mv:Value) (m mp:List Int) (h:MS W0 w X MB av mv m mp) (vf vt:Value) (f t:List Int) (hf:Ints W0 vf f) (ht:Ints W0 vt t) (hfl:∀x∈f,x<20) (htu:∀x∈t,x≠-1000) (hml:mp.length+f.length≤1000000) :
  Calls Tryz.prog 144 #[.pointer (some ⟨X,0,none⟩),vf,vt] w (fun e w'=>∃mv' mp' m',e=.returned (.bool (decide (f.length=t.length)&&(uniF m f t).2))∧MS W0 w' X MB av mv' m' mp'∧(f.length=t.length→m'=(uniF m f t).1)∧(∀m0 mp0,Ext m0 mp0 m mp→Ext m0 mp0 m' mp')∧mp'.length≤mp.length+f.length∧w.heap.size≤w'.heap.size):=by
 obtain⟨a,n,cap,rfl,hl,hn,hmx,hcell⟩:=hf.cases;obtain⟨a',n',cap',rfl,hl',hn',hmx',hcell'⟩:=ht.cases;unfold maxLen at hmx hmx';have H:=Lib.hid h;by_cases hnn:n=n'
 ·subst hnn;have HC:=Lib.hid hcell;have HC':=Lib.hid hcell';have HFL:=Lib.hid hfl;have HTU:=Lib.hid htu;have HL:=Lib.hid hl;have HFI:=Lib.hid hf.1;have HTI:=Lib.hid ht.1;have HML:=Lib.hid hml;have HRE:Hid ((decide (f.length=t.length)&&(uniF m f t).2)=(uniF m f t).2):=by unfold Hid;rw[decide_eq_true (by omega)];rfl
  have HFN:Hid (uniF m f t=uniTo m f t n):=by unfold Hid uniF;rw[hl]
  have hq:((n:Int) != n)=false:=by simp
  clear h hcell hcell' hfl htu hl hl' hf ht hml;go_enter Tryz.func144,Tryz.ntmps144
  go_wp2_with fail
  go_loopw [16] (fun iv wr=>∃i:Nat,i≤n∧iv=.int .i64 i∧(uniTo m f t i).2=true∧∃mv' mp',Hid (MS W0 wr X MB av mv' (uniTo m f t i).1 mp')∧Hid (∀m0 mp0,Ext m0 mp0 m mp→Ext m0 mp0 (uniTo m f t i).1 mp')∧mp'.length≤mp.length+i∧w.heap.size≤wr.heap.size) (fun iv _=>n-(intOf iv).toNat)
  case atStart=>exact⟨0,by omega,rfl,rfl,mv,mp,H,fun m0 mp0 h=>h,by omega,Nat.le_refl _⟩
  case round=>
   obtain⟨i,hi,rfl,hyes,mv',mp',HM,HX,hmp,hsz⟩:=hrel;have hbq:=HM.out.below;by_cases hlt:i<n
   ·obtain⟨b,off,rfl,hbw,hc⟩:=HC.out (by omega);obtain⟨b',off',rfl,hbw',hc'⟩:=HC'.out (by omega);have c1:=cellk hbq (hc i hlt);have c2:=cellk hbq (hc' i hlt);have hi0:(0:Int)≤i:=by omega
    have hi1:(i:Int)<n:=by omega
    have hx20:f.getD i 0<20:=getD_all7 (p:=fun x=>x<20) HFL.out (by omega) i;have hu20:t.getD i 0≠-1000:=getD_all7 (p:=fun x=>x≠-1000) HTU.out (by omega) i;have hxi:=inI_getD HFI.out i;have hui:=inI_getD HTI.out i;have HNO:=Lib.hid (fun x h=>uniF_no (m:=m) (f:=f) (t:=t) (i:=i) (x:=x) (by rw[HL.out];exact hlt) hyes h);have HYES:=Lib.hid (uniTo_yes hyes);have HTN:=Lib.hid (iTurn_any W0 wr X MB av mv' (uniTo m f t i).1 mp' HM.out (f.getD i 0) (t.getD i 0) hx20 hxi hu20 hui (by have:=HML.out;have:=HL.out;omega));generalize (uniTo m f t i).1=M at *;generalize f.getD i 0=x at *;generalize t.getD i 0=u at *;clear hc hbw hc' hbw' hbq;go_wp2_with fail
    refine HTN.out.mono ?_;rintro e w2 ⟨mv2,mp2,rfl,hm2,hx2,hp2,hs2⟩;have HM2:=Lib.hid hm2;have HX2:=Lib.hid hx2;obtain⟨M2,hM2⟩:∃M2,(uni1 M x u).1=M2:=⟨_,rfl⟩
    cases hb:(uni1 M x u).2 with
    |true=>
     have hpair:uni1 M x u=(M2,true):=by rw[←hM2,←hb]
     have HPR:=Lib.hid hpair;rw[hM2] at HM2 HX2;clear hm2 hx2 hM2 hb hpair;go_wp2_with fail
     refine⟨⟨i+1,by omega,by simp,by rw[HYES.out,HPR.out],mv2,mp2,by rw[HYES.out,HPR.out];exact HM2,by rw[HYES.out,HPR.out];exact fun m0 mp0 h=>HX2.out m0 mp0 (HX.out m0 mp0 h),by omega,by omega⟩,by simp[intOf];omega⟩
    |false=>
     have hpair:uni1 M x u=(M2,false):=by rw[←hM2,←hb]
     have HN:=Lib.hid (HNO.out M2 hpair);have HLL:=Lib.hid HL.out;rw[hM2] at HM2 HX2;clear hm2 hx2 hM2 hb hpair;go_wp2_with fail
     go_ret;exact⟨mv2,mp2,M2,ret_b (by rw[HRE.out,HN.out]),HM2.out,fun _=>by rw[HN.out],fun m0 mp0 h=>HX2.out m0 mp0 (HX.out m0 mp0 h),by rw[HL.out];omega,by omega⟩
   ·obtain rfl:i=n:=by omega
    have HY:=Lib.hid hyes;clear hbq hyes;go_wp2_with fail
    go_ret;exact⟨mv',mp',_,ret_b (by rw[HRE.out,HFN.out,HY.out]),HM.out,fun _=>by rw[HFN.out],HX.out,by rw[HL.out];omega,hsz⟩
 ·have HRE:Hid ((decide (f.length=t.length)&&(uniF m f t).2)=false):=by unfold Hid;rw[decide_eq_false (by omega)];rfl
  have hq:((n:Int) != n')=true:=by simp;omega
  have HLN:Hid (f.length≠t.length):=by unfold Hid;omega
  clear h hcell hcell' hfl htu hl hl' hf ht hml hnn;go_enter Tryz.func144,Tryz.ntmps144
  go_wp2_with fail
  go_ret;exact⟨mv,mp,m,ret_b HRE.out.symm,H.out,fun e=>absurd e HLN.out,fun m0 mp0 h=>h,by omega,Nat.le_refl _⟩
def undoL (m L:List Int):List Int:=L.foldl (fun m v=>m.set v.toNat (-1000)) m
theorem undoL_len (L m:List Int):(undoL m L).length=m.length:=by
 unfold undoL
 induction L generalizing m with
 |nil=>rfl
 |cons v L ih=>rw[List.foldl_cons,ih];simp
theorem undoL_take {m L:List Int} {j:Nat} (h:j<L.length):undoL m (L.take (j+1))=(undoL m (L.take j)).set (L.getD j 0).toNat (-1000):=by
 unfold undoL;rw[List.take_succ_eq_append_getElem h,List.foldl_append];simp[List.getD,List.getElem?_eq_getElem h]
theorem undoL_at (L m:List Int) (hk:∀v∈L,∃k:Nat,v=(k:Int)∧k<m.length) (j:Nat):(undoL m L).getD j 0=if (j:Int)∈L then -1000 else m.getD j 0:=by
 unfold undoL
 induction L generalizing m with
 |nil=>simp
 |cons v L ih=>
  obtain⟨k,rfl,hkl⟩:=hk v (List.mem_cons_self ..);rw[List.foldl_cons,ih _ (fun x hx=>by obtain⟨k',e,h⟩:=hk x (List.mem_cons_of_mem _ hx);exact⟨k',e,by simpa using h⟩),Int.toNat_natCast];by_cases h1:(j:Int)∈L
  ·rw[if_pos h1,if_pos (List.mem_cons_of_mem _ h1)]
  ·rw[if_neg h1,getD_set7 _ _ _ _ hkl];by_cases h2:j=k
   ·subst h2;rw[if_pos rfl,if_pos (List.mem_cons_self ..)]
   ·rw[if_neg h2,if_neg (fun hm=>by rcases List.mem_cons.1 hm with h|h;(· omega);exact h1 h)]
theorem ext_getD7 {l l':List Int} (hl:l.length=l'.length) (h:∀j:Nat,l.getD j 0=l'.getD j 0):l=l':=by
 refine List.ext_getElem hl (fun j h1 h2=>?_);have:=h j;rw[List.getD_eq_getElem?_getD,List.getD_eq_getElem?_getD,List.getElem?_eq_getElem h1,List.getElem?_eq_getElem h2] at this;exact this
theorem Ext.undo {m0 mp0 m mp:List Int} (h:Ext m0 mp0 m mp):∃L,mp=mp0++L∧undoL m L=m0∧(∀v∈L,∃k:Nat,v=(k:Int)∧k<m.length)∧m.length=m0.length:=by
 obtain⟨h1,L,h2,h3,h4⟩:=h;have hk:∀v∈L,∃k:Nat,v=(k:Int)∧k<m.length:=fun v hv=>by obtain⟨k,e,h,_⟩:=h4 v hv;exact⟨k,e,by omega⟩
 refine⟨L,h2,ext_getD7 (by rw[undoL_len,h1]) (fun j=>?_),hk,h1⟩;rw[undoL_at L m hk];by_cases hj:(j:Int)∈L
 ·rw[if_pos hj];obtain⟨k,e,_,h6⟩:=h4 _ hj;have:j=k:=by omega
  subst this;exact h6.symm
 ·rw[if_neg hj];exact h3 j hj
theorem MS.put {W0 w:World} {X MB:Nat} {av mv:Value} {m mp:List Int} (h:MS W0 w X MB av mv m mp) {k:Nat} {u:Int} (hk:k<20) (hui:inI u):MS W0 (w.setCell ⟨MB,k,none⟩ (.int .i64 u)) X MB av mv (m.set k u) mp:=by
 have o1:OnlyAt [MB] w (w.setCell ⟨MB,k,none⟩ (.int .i64 u)):=OnlyAt.setCell _ _ _ _;refine⟨o1.cell (by simpa using h.n1) h.c0,o1.cell (by simpa using h.n1) h.c1,o1.cell (by simpa using h.n1) h.c2,o1.frozen h.lt (by simpa using h.n1) h.f2,h.bm.store h.len.symm k u,built_onlyAt h.bp o1 (fun b hb=>by simp at hb;subst hb;exact h.mb.1) (fun b hb=>by simp;intro e;subst e;exact h.n3 hb),h.n1,h.n2,h.n3,h.lo,Nat.lt_of_lt_of_le h.lt o1.size,by simpa using h.len,h.ml,fun x hx=>?_⟩;rcases List.mem_or_eq_of_mem_set hx with h1|h1
 ·exact h.mi x h1
 ·rw[h1];exact hui
theorem shortC7 {E:TypeId} {size:Nat} {W w:World} {g n cap m:Nat} {cs:List Value} (h:BuiltC E size W w (.slice (some ⟨g,0,none⟩) n cap) n cs) (hm:m≤n):BuiltC E size W w (.slice (some ⟨g,0,none⟩) m cap) m (cs.take (m*size)):=by
 have hlen:=h.len;have hle:m*size≤n*size:=Nat.mul_le_mul_right _ hm;rcases h.1.2 with⟨h1,_⟩|⟨g',cap',cur,he,hbase,hg,hc1,hc2,hc3,hc4⟩
 ·cases h1
 ·cases he;refine⟨⟨by simp;omega,.inr ⟨g,cap,cur,rfl,hbase,hg,by omega,hc2,hc3,?_⟩⟩,h.2⟩;rw[←hc4,List.take_take,Nat.min_eq_left hle]
theorem built_short {W0 w:World} {g cap c:Nat} {l:List Int} (h:Built .i64 3 W0 w (.slice (some ⟨g,0,none⟩) l.length cap) l) (hc:c≤l.length):Built .i64 3 W0 w (.slice (some ⟨g,0,none⟩) c cap) (l.take c):=by
 have h2:=shortC7 (m:=c) h hc;unfold Built;rw[List.length_take,Nat.min_eq_left hc,List.map_take];rw[Nat.mul_one] at h2;exact h2
theorem MS.remap {W0 w:World} {X MB:Nat} {av mv mv0:Value} {m mp mp0:List Int} (h:MS W0 w X MB av mv m mp) (hB:Built .i64 3 W0 w mv0 mp0) (hs:∀b∈blk mv0,b∈blk mv) (hl:mp0.length≤1099511627775):MS W0 (w.setCell ⟨X,2,none⟩ mv0) X MB av mv0 m mp0:=by
 have o1:OnlyAt [X] w (w.setCell ⟨X,2,none⟩ mv0):=OnlyAt.setCell _ _ _ _;refine⟨?_,?_,World.cell?_setCell_same _ _ _ h.c2,by rw[World.frozen?_setCell];exact h.f2,built_onlyAt h.bm o1 (fun b hb=>by simp at hb;subst hb;exact h.lo) (fun b hb=>by simp[blk] at hb;subst hb;simpa using fun e=>h.n1 e.symm),built_onlyAt hB o1 (fun b hb=>by simp at hb;subst hb;exact h.lo) (fun b hb=>by simp;intro e;subst e;exact h.n2 (hs _ hb)),h.n1,fun hm=>h.n2 (hs _ hm),fun hm=>h.n3 (hs _ hm),h.lo,Nat.lt_of_lt_of_le h.lt o1.size,h.len,hl,h.mi⟩
 ·exact (World.cell?_setCell_other _ _ _ _ (fun e=>by cases e)).trans h.c0
 ·exact (World.cell?_setCell_other _ _ _ _ (fun e=>by cases e)).trans h.c1
set_option maxRecDepth 100000 in
set_option maxHeartbeats 4000000 in
theorem iUndo_deferred (W0 w:World) (X MB:Nat) (av mv:Value) (m mp m0 mp0:List Int) (h:MS W0 w X MB av mv m mp) (hx:Ext m0 mp0 m mp) (hi0:∀x∈m0,inI x) (u:FrameMode) :
  CallsD Tryz.prog 204 #[.pointer (some ⟨X,0,none⟩),.int .i64 (mp0.length:Int)] u w (fun e u' w'=>u'=u∧e=.returned (.tuple #[])∧∃mv0,MS W0 w' X MB av mv0 m0 mp0∧OnlyAt [X,MB] w w'):=by
 obtain⟨L,hmp,hun,hLk,hml⟩:=hx.undo;have H:=Lib.hid h;have HUN:=Lib.hid hun;have HLK:=Lib.hid hLk;have c1:=h.c1;have c2:=h.c2;have HI0:=Lib.hid hi0;have hmpl:mp.length=mp0.length+L.length:=by rw[hmp];simp
 have HMP:=Lib.hid hmp;have hlim:=h.ml;rcases BuiltC.form h.bp with⟨hnil,hz⟩|⟨g,cap,hmv,hcap,hcm⟩
 ·have hL0:L=[]:=List.eq_nil_of_length_eq_zero (by omega);have hp0:mp0=[]:=List.eq_nil_of_length_eq_zero (by omega);subst hnil hL0 hp0;have HM0:Hid (m=m0):=hun;have f2:=h.f2
  have HMS:Hid (MS W0 (w.setCell ⟨X,2,none⟩ (.slice none 0 0)) X MB av (.slice none 0 0) m0 []):=by
   have:=h.remap (mv0:=.slice none 0 0) (mp0:=[]) (BuiltC.nil _ _ _ _ h.below) (fun b hb=>by simp[blk] at hb) (by simp);rw[HM0.out] at this;exact this
  have HON:Hid (OnlyAt [X,MB] w (w.setCell ⟨X,2,none⟩ (.slice none 0 0))):=(OnlyAt.setCell _ _ _ _).wider (fun x hx=>by simp at hx;simp[hx]);clear h hx hun hLk hml hmp hi0 hmpl hlim hz
  go_enter_d Tryz.func204,Tryz.ntmps204
  go_wp2_with fail
  go_loopw [13] (fun iv wr=>iv=.int .i64 0∧wr=w) (fun _ _=>0)
  case atStart=>exact⟨rfl,rfl⟩
  case round=>
   obtain⟨rfl,rfl⟩:=hrel;go_wp2_with fail
   go_end0
   exact⟨rfl,_,HMS.out,HON.out⟩
 ·obtain⟨c,hc⟩:∃c,mp0.length=c:=⟨_,rfl⟩
  obtain⟨nL,hnL⟩:∃nL,L.length=nL:=⟨_,rfl⟩
  rw[hc,hnL] at hmpl
  have HCUR:Hid (∀j,j<nL→w.cell? ⟨g,c+j,none⟩=some (.int .i64 (L.getD j 0))):=by
   intro j hj;have hb:=h.bp;rw[hmv] at hb;have h1:=Built.cell hb (c+j) (by omega);rw[h1,hmp];rw[List.getD_eq_getElem?_getD,List.getD_eq_getElem?_getD,List.getElem?_append_right (by omega),hc,Nat.add_sub_cancel_left]
  rw[hmpl] at hmv;subst hmv;have hcc:c+nL≤cap:=by omega
  unfold maxLen at hcm;rw[hc]
  have HEND:Hid (∀w',OnlyAt [MB] w w'→MS W0 w' X MB av (.slice (some ⟨g,0,none⟩) (c+nL) cap) m0 mp→MS W0 (w'.setCell ⟨X,2,none⟩ (.slice (some ⟨g,0,none⟩) c cap)) X MB av (.slice (some ⟨g,0,none⟩) c cap) m0 mp0∧OnlyAt [X,MB] w (w'.setCell ⟨X,2,none⟩ (.slice (some ⟨g,0,none⟩) c cap))):=by
   intro w' ko hm;have hb:=hm.bp;rw[←hmpl] at hb;have h1:=built_short hb (c:=c) (by omega);have h2:mp.take c=mp0:=by rw[hmp,←hc];simp
   rw[h2] at h1;refine⟨hm.remap h1 (fun b hb=>by simpa[blk] using hb) (by omega),?_⟩;refine (ko.wider (bs':=[X,MB]) (fun x hx=>by simp at hx;simp[hx])).same ((OnlyAt.setCell _ _ _ _).wider (fun x hx=>by simp at hx;simp[hx]))
  clear h hx hun hLk hmp hi0 hcap;by_cases h0:nL=0
  ·have hL0:L=[]:=List.eq_nil_of_length_eq_zero (by omega);have HM0:Hid (m=m0):=by have:=HUN.out;rw[hL0] at this;exact this
   subst h0;have HE1:=Lib.hid (HEND.out w (OnlyAt.refl _ _) (by have:=H.out;rw[HM0.out] at this;exact this))
   go_enter_d Tryz.func204,Tryz.ntmps204
   have q0:(0:Int)≤c:=by omega
   have f2:=H.out.f2;go_wp2_with fail
   all_goals
    go_loopw [13] (fun iv wr=>iv=.int .i64 0∧wr=w) (fun _ _=>0)
    case atStart=>exact⟨rfl,rfl⟩
    case round=>
     obtain⟨rfl,rfl⟩:=hrel;go_wp2_with fail
     go_end0
     first
      |exact⟨rfl,_,HE1.out.1,HE1.out.2⟩
      |(obtain rfl:cap=c:=(by omega);exact⟨rfl,_,HE1.out.1,HE1.out.2⟩)
  ·have hcap2:c<cap:=by omega
   have hmg:g≠MB:=fun e=>H.out.n3 (by simp[blk,e])
   have HML:=Lib.hid hml;have HLL:=Lib.hid hnL
   go_enter_d Tryz.func204,Tryz.ntmps204
   have q0:(0:Int)≤c:=by omega
   have q2:(c:Int)≤((c:Int)+nL):=by omega
   go_wp2_with fail
   go_loopw [13] (fun iv wr=>∃j:Nat,j≤nL∧iv=.int .i64 j∧Hid (MS W0 wr X MB av (.slice (some ⟨g,0,none⟩) (c+nL) cap) (undoL m (L.take j)) mp)∧Hid (OnlyAt [MB] w wr)) (fun iv _=>nL-(intOf iv).toNat)
   case atStart=>exact⟨0,by omega,rfl,H,OnlyAt.refl _ _⟩
   case round=>
    obtain⟨j,hj,rfl,HM,HO⟩:=hrel;have d1:=HM.out.c1;have d2:=HM.out.c2;have d2f:=HM.out.f2;by_cases hlt:j<nL
    ·obtain⟨k,hk,hk2⟩:=HLK.out (L.getD j 0) (by rw[List.getD_eq_getElem?_getD,List.getElem?_eq_getElem (by rw[HLL.out];exact hlt)];exact List.getElem_mem _);have hk20:k<20:=by have:=H.out.len;omega
     have e1:=HO.out.cell (by simpa using hmg) (HCUR.out j hlt);rw[hk] at e1;have hul:=undoL_take (m:=m) (L:=L) (j:=j) (by rw[HLL.out];exact hlt);rw[hk,Int.toNat_natCast] at hul;have HUL:=Lib.hid hul;have HPUT:=Lib.hid (HM.out.put hk20 (u:=-1000) (by unfold inI;omega));have HON:Hid (OnlyAt [MB] w (wr.setCell ⟨MB,k,none⟩ (.int .i64 (-1000)))):=HO.out.same (OnlyAt.setCell _ _ _ _);have hcell:=(HM.out.len.symm ▸ HM.out.bm:Built .i64 3 W0 wr (.slice (some ⟨MB,0,none⟩) (undoL m (L.take j)).length 20) (undoL m (L.take j))).cell k (by rw[HM.out.len];exact hk20);have hfr:=HM.out.bm.frozen HM.out.len.symm k;generalize (undoL m (L.take j)).getD k 0=y0 at hcell;have hj0:(0:Int)≤j:=by omega
     have hj1:(j:Int)<nL:=by omega
     have hk0:(0:Int)≤k:=by omega
     have hk1:(k:Int)<20:=by omega
     clear hk hul c1 c2;go_wp2_with fail
     exact⟨⟨j+1,by omega,by simp,by rw[HUL.out];exact HPUT,HON⟩,by simp[intOf];omega⟩
    ·obtain rfl:j=nL:=by omega
     have hall:undoL m (L.take j)=m0:=by rw[List.take_of_length_le (by rw[HLL.out];exact Nat.le_refl _)];exact HUN.out
     have HE1:=Lib.hid (HEND.out wr HO.out (by have:=HM.out;rw[hall] at this;exact this));clear hall c1 c2;go_wp2_with fail
     go_end0
     exact⟨rfl,_,HE1.out.1,HE1.out.2⟩
def FoundO (w w':World) (o:Option (List Int)) (yv:Value) (b:Bool):Prop:=match o with|some y=>b=true∧∃bs,OInts w' yv y bs∧Fresh w w' bs|none=>b=false∧yv=.slice none 0 0
theorem FoundO.undone {w w1 w2 w3:World} {o:Option (List Int)} {yv:Value} {b:Bool} {X MB:Nat} (h:FoundO w1 w2 o yv b) (h1:w.heap.size≤w1.heap.size) (hX:X<w1.heap.size) (hM:MB<w1.heap.size) (ko:OnlyAt [X,MB] w2 w3):FoundO w w3 o yv b:=by
 unfold FoundO at h ⊢
 cases o with
 |none=>exact h
 |some y=>
  obtain⟨hb,bs,ho,hf⟩:=h;refine⟨hb,bs,ho.onlyAt ko (fun b hb hm=>?_),hf.1,fun b hb=>⟨Nat.le_trans h1 (hf.2 b hb).1,Nat.lt_of_lt_of_le (hf.2 b hb).2 ko.size⟩⟩;have:=hf.lo b hb;simp at hm;omega
def Placed (W0 w:World) (X MB:Nat) (av:Value) (m mp:List Int) (o:Option (List Int)) (e:Ending) (w':World):Prop:=
 ∃yv b mv',e=.returned (.tuple #[yv,.bool b])∧MS W0 w' X MB av mv' m mp∧FoundO w w' o yv b∧w.heap.size≤w'.heap.size
theorem MS.form {W0 w:World} {X MB:Nat} {av mv:Value} {m mp:List Int} (h:MS W0 w X MB av mv m mp):∃A C,mv=.slice A mp.length C:=by
 rcases BuiltC.form h.bp with⟨rfl,h0⟩|⟨g,cap,h1,_⟩
 ·exact⟨none,0,by rw[h0]⟩
 ·exact⟨_,_,h1⟩
set_option maxRecDepth 100000 in
set_option maxHeartbeats 8000000 in
theorem iPlaceFirst_of (W0:World) (X MB:Nat) (av:Value) (B:List AtomD) (a:AtomD) (rest:List AtomD) (h20:∀x∈a.2,x<20)
  (ih:∀(w:World) (vat mv:Value) (m mp:List Int),RdAtomS W0 vat rest→MS W0 w X MB av mv m mp→mp.length+sumArgs rest≤1000000→Calls Tryz.prog 145 #[.pointer (some ⟨X,0,none⟩),vat] w (Placed W0 w X MB av m mp (srch B rest m)))
  (w:World) (vat:Value) (hat:RdAtomS W0 vat (a::rest)) (mv:Value) (m mp:List Int) (h:MS W0 w X MB av mv m mp) (hlim:mp.length+sumArgs (a::rest)≤1000000) (b:AtomD) (xa:Option Addr) (xm xc:Nat) (hb:Ints W0 (.slice xa xm xc) b.2) (hbu:∀x∈b.2,x≠-1000) :
  Calls Tryz.prog 177 #[.pointer (some ⟨X,0,none⟩),vat,.agg #[.int .i64 b.1,.slice xa xm xc]] w (Placed W0 w X MB av m mp (srch1 B a rest m b)):=by
 obtain⟨A,C,rfl⟩:=h.form;have H:=Lib.hid h;obtain⟨pa,an,ac,rfl,hat⟩:=hat
 obtain⟨hla,hna,hma,hca⟩:=hat.at
 unfold maxLen at hma;obtain⟨ab,aoff,rfl,habW,hcells⟩:=hca (by rw[←hla];simp);obtain⟨sa,sn,sc,ca0,ca1,hai,haints⟩:=atomAt (n:=an) hcells 0 a rfl;simp only[Nat.zero_mul,Nat.add_zero] at ca0 ca1;have hrl:rest.length=an-1:=by simp at hla;omega
 have HREST:Hid (∀pt:Option Addr,(ac≠1→pt=some ⟨ab,aoff+2,none⟩)→RdAtomS W0 (.slice pt (an-1) (ac-1)) rest):=by
  intro pt hpt;refine⟨_,_,_,rfl,_,_,_,rfl,hrl,by omega,by unfold maxLen;omega,fun h0=>⟨ab,aoff+2,hpt (by omega),habW,fun j hj=>?_⟩⟩;obtain⟨cs,e1,e2,e3⟩:=hcells (j+1) rest[j] (by rw[List.getElem?_cons_succ];exact List.getElem?_eq_getElem hj);exact⟨cs,e1,fun e he=>by rw[←e2 e he];congr 2;omega,e3⟩
 have HIH:=Lib.hid ih;have HSA:Hid (sumArgs (a::rest)=a.2.length+sumArgs rest):=by unfold Hid sumArgs;simp
 have HLIM:=Lib.hid hlim;have HAI:=Lib.hid haints;have HBI:=Lib.hid hb;have HBU:=Lib.hid hbu;have HA20:=Lib.hid h20;have hW:Below W0.heap.size W0 w:=h.below;have hbn:=below_alloc w (.cells #[.int .i64 b.1,.slice xa xm xc] 83);obtain⟨w1,hw1⟩:∃w1,w1=w.alloc (.cells #[.int .i64 b.1,.slice xa xm xc] 83):=⟨_,rfl⟩
 have z0:w1.cell? ⟨w.heap.size,0,none⟩=some (.int .i64 b.1):=by rw[hw1];exact newBox w _ _ _ _ rfl
 have z1:w1.cell? ⟨w.heap.size,1,none⟩=some (.slice xa xm xc):=by rw[hw1];exact newBox w _ _ _ _ rfl
 rw[←hw1] at hbn;have c0:=cellk hbn (cellk hW ca0);have c1:=cellk hbn (cellk hW ca1);have H1:=Lib.hid (h.grow hbn);have d2:=H1.out.c2;have HSZ1:=Lib.hid hbn.size;have HWE:=Lib.hid hw1
 have hi1:(0:Int)<an:=by (have:an≠0:=by rw[←hla];simp);omega
 have hac:an≤ac:=hna;have hnp:0<an:=by omega
 clear h hat hca hcells hla ih hlim hb hbu haints h20 hbn hw1 ca0 ca1 hW
 go_enter_defers Tryz.func177,Tryz.ntmps177
 go_upto_region 1 with fail
 rw[←HWE.out];clear HWE;go_upto_region 2 with fail
 by_cases hr:a.1=b.1
 ·have hr2:(a.1 != b.1)=false:=by simp[hr]
  have HR:=Lib.hid hr;have HTA:=Lib.hid (iTurnAll_any W0 w1.drew X MB av (.slice A mp.length C) m mp (H1.out.grow (Below.refl _ _).drew) (.slice sa sn sc) (.slice xa xm xc) a.2 b.2 HAI.out HBI.out HA20.out HBU.out (by have:=HLIM.out;rw[HSA.out] at this;omega));clear hr
  go_cut [31] from 14 to 37 (fun q wx=>∃mv' mp' m',q=.bool (!(decide (a.2.length=b.2.length)&&(uniF m a.2 b.2).2))∧MS W0 wx X MB av mv' m' mp'∧(a.2.length=b.2.length→m'=(uniF m a.2 b.2).1)∧Ext m mp m' mp'∧mp'.length≤mp.length+a.2.length∧w1.heap.size≤wx.heap.size)
  case first=>
   refine wp_region_noPanic ?_
   go_region_law (first
    |(go_simp;go_at_call 144;refine HTA.out.mono ?_;rintro e2 w2 ⟨mv2,mp2,m2,rfl,hm2,he2,hx2,hp2,hs2⟩))
   all_goals (refine NoPanic.normal ?_;go_wp2_with fail;go_meet;exact⟨mv2,mp2,m2,by rw[Bool.not_and],hm2,he2,hx2 m mp (Ext.refl m mp),hp2,hs2⟩)
  case rest=>
   obtain⟨mv2,mp2,m2,rfl,hm2,he2,hx2,hp2,hs2⟩:=hcut;obtain⟨w2,hw2⟩:∃w2,w2=wc:=⟨_,rfl⟩
   subst hw2;have HM2:=Lib.hid hm2;have HX2:=Lib.hid hx2
   cases hp:(decide (a.2.length=b.2.length)&&(uniF m a.2 b.2).2) with
   |false=>
    have HN:Hid (srch1 B a rest m b=none):=srch1_no (fun h=>by rw[decide_eq_true h.2.1,h.2.2] at hp;cases hp);simp only[Bool.not_false];clear hp hm2 he2 hx2 hp2;go_wp2_with fail
    refine leaves_cons (f:=204) (args:=#[.pointer (some ⟨X,0,none⟩),.int .i64 (mp.length:Int)]) (by simp) (by simp[go_sem]) ?_;refine (iUndo_deferred W0 _ X MB av _ _ _ m mp HM2.out HX2.out H.out.mi .returning).mono ?_;rintro e u' w'' ⟨rfl,rfl,mv0,hms,ko⟩;exact⟨_,results_tmp2 Tryz.results177 _ _ _,.slice none 0 0,false,mv0,rfl,hms,by rw[HN.out];exact⟨rfl,rfl⟩,Nat.le_trans HSZ1.out (Nat.le_trans hs2 ko.size)⟩
   |true=>
    have hp5:a.2.length=b.2.length∧(uniF m a.2 b.2).2=true:=by simpa using hp
    have HN:Hid (srch1 B a rest m b=srch B rest m2):=by unfold Hid;rw[srch1_yes HR.out hp5.1 hp5.2,he2 hp5.1]
    have HIH2:=Lib.hid (fun pt hpt=>HIH.out w2 (.slice pt (an-1) (ac-1)) mv2 m2 mp2 (HREST.out pt hpt) HM2.out (by have:=HLIM.out;rw[HSA.out] at this;omega));simp only[Bool.not_true];clear hp hm2 he2 hx2 hp2 hp5;go_wp2_with fail
    ·have hc:=HIH2.out (some ⟨ab,aoff,none⟩) (fun h=>absurd (by omega:ac=1) h);rw[show ac-1=0 by omega] at hc;refine hc.mono ?_;clear hc;rintro e w3 ⟨yv,bb,mv3,rfl,hm3,hf3,hs3⟩;have HM3:=Lib.hid hm3;have HF3:=Lib.hid hf3;have HS3:=Lib.hid hs3;clear hm3 hf3 hs3;go_wp2_with fail
     refine leaves_cons (f:=204) (args:=#[.pointer (some ⟨X,0,none⟩),.int .i64 (mp.length:Int)]) (by simp) (by simp[go_sem]) ?_;refine (iUndo_deferred W0 _ X MB av _ _ _ m mp HM3.out HX2.out H.out.mi .returning).mono ?_;rintro e u' w'' ⟨rfl,rfl,mv0,hms,ko⟩;have hw12:w.heap.size≤w2.heap.size:=Nat.le_trans HSZ1.out hs2;exact⟨_,results_tmp2 Tryz.results177 _ _ _,yv,bb,mv0,rfl,hms,by rw[HN.out];exact HF3.out.undone hw12 (Nat.lt_of_lt_of_le H.out.lt hw12) (Nat.lt_of_lt_of_le H.out.mb.2 hw12) ko,Nat.le_trans hw12 (Nat.le_trans HS3.out ko.size)⟩
    ·refine (HIH2.out (some ⟨ab,aoff+2,none⟩) (fun _=>rfl)).mono ?_;rintro e w3 ⟨yv,bb,mv3,rfl,hm3,hf3,hs3⟩;have HM3:=Lib.hid hm3;have HF3:=Lib.hid hf3;have HS3:=Lib.hid hs3;clear hm3 hf3 hs3;go_wp2_with fail
     refine leaves_cons (f:=204) (args:=#[.pointer (some ⟨X,0,none⟩),.int .i64 (mp.length:Int)]) (by simp) (by simp[go_sem]) ?_;refine (iUndo_deferred W0 _ X MB av _ _ _ m mp HM3.out HX2.out H.out.mi .returning).mono ?_;rintro e u' w'' ⟨rfl,rfl,mv0,hms,ko⟩;have hw12:w.heap.size≤w2.heap.size:=Nat.le_trans HSZ1.out hs2;exact⟨_,results_tmp2 Tryz.results177 _ _ _,yv,bb,mv0,rfl,hms,by rw[HN.out];exact HF3.out.undone hw12 (Nat.lt_of_lt_of_le H.out.lt hw12) (Nat.lt_of_lt_of_le H.out.mb.2 hw12) ko,Nat.le_trans hw12 (Nat.le_trans HS3.out ko.size)⟩
 ·have hr2:(a.1 != b.1)=true:=by simp[hr]
  have HN:Hid (srch1 B a rest m b=none):=srch1_no (fun h=>hr h.1);have r0:=cell_regrown z0;have r1:=cell_regrown c0;clear hr;refine wp_region_quiet_below (by kernel_rfl) (by kernel_rfl) ?_
  repeat (any_goals (first|go_big_quiet_step (fail)|quiet_step (fail)))
  refine wpQuiet_nil ?_;intro _ hw';obtain⟨⟨dq,osq⟩,hw''⟩:=hw';subst hw'';have HM2:=Lib.hid (H1.out.grow (below_regrown w1 dq osq));go_wp2_with fail
  refine leaves_cons (f:=204) (args:=#[.pointer (some ⟨X,0,none⟩),.int .i64 (mp.length:Int)]) (by simp) (by simp[go_sem]) ?_;refine (iUndo_deferred W0 _ X MB av _ m mp m mp HM2.out (Ext.refl m mp) H.out.mi .returning).mono ?_;rintro e u' w'' ⟨rfl,rfl,mv0,hms,ko⟩;exact⟨_,results_tmp2 Tryz.results177 _ _ _,.slice none 0 0,false,mv0,rfl,hms,by rw[HN.out];exact⟨rfl,rfl⟩,Nat.le_trans HSZ1.out (Nat.le_trans (below_regrown w1 dq osq).size ko.size)⟩
theorem FoundO.wide {w w1 w2:World} {o:Option (List Int)} {yv:Value} {b:Bool} (h:FoundO w1 w2 o yv b) (h1:w.heap.size≤w1.heap.size):FoundO w w2 o yv b:=by
 unfold FoundO at h ⊢
 cases o with
 |none=>exact h
 |some y=>
  obtain⟨hb,bs,ho,hf⟩:=h;exact⟨hb,bs,ho,hf.1,fun b hb=>⟨Nat.le_trans h1 (hf.2 b hb).1,(hf.2 b hb).2⟩⟩
set_option maxRecDepth 100000 in
set_option maxHeartbeats 4000000 in
theorem iPlace_any (W0:World) (X MB:Nat) (ua:Option Addr) (un uc:Nat) (B:List AtomD) (hB:RdSl 2 CsAtom W0 (.slice ua un uc) B) (hBu:∀b∈B,∀x∈b.2,x≠-1000):∀(F:List AtomD) (hF20:∀a∈F,∀x∈a.2,x<20) (w:World) (vat mv:Value) (m mp:List Int),RdAtomS W0 vat F→MS W0 w X MB (.slice ua un uc) mv m mp→mp.length+sumArgs F≤1000000→
  Calls Tryz.prog 145 #[.pointer (some ⟨X,0,none⟩),vat] w (Placed W0 w X MB (.slice ua un uc) m mp (srch B F m)):=by
 intro F
 induction F with
 |nil=>
  intro _ w vat mv m mp hat h hlim;obtain⟨pa,an,ac,rfl,hat⟩:=hat
  obtain⟨hla,_,_,_⟩:=hat.at
  obtain rfl:an=0:=by simpa using hla.symm
  have H:=Lib.hid h;have c1:=h.c1;have HC:=Lib.hid (iClone_any w (.slice (some ⟨MB,0,none⟩) 20 20) m (Ints.ofBuilt h.bm h.mi) (by rw[h.len];decide));have HS:Hid (srch B [] m=some m):=rfl;clear h hat hla hlim hB hBu;go_enter Tryz.func145,Tryz.ntmps145
  go_wp2_with fail
  refine HC.out.mono ?_;rintro e w2 ⟨vb,bsb,rfl,hob,hfb,hbb⟩;have HOB:=Lib.hid hob;have HFB:=Lib.hid hfb;have HBB:=Lib.hid hbb;have HM:=Lib.hid (H.out.grow hbb);clear hob hfb hbb;go_wp2_with fail
  go_ret2
  exact⟨vb,true,mv,rfl,HM.out,by rw[HS.out];exact⟨rfl,bsb,HOB.out,HFB.out⟩,HBB.out.size⟩
 |cons a rest ih=>
  intro hF20 w vat mv m mp hat h hlim;have HPF:=Lib.hid (fun w mv h b xa xm xc hb hbu=>iPlaceFirst_of W0 X MB (.slice ua un uc) B a rest (hF20 a (List.mem_cons_self ..)) (ih (fun a ha=>hF20 a (List.mem_cons_of_mem _ ha))) w vat hat mv m mp h hlim b xa xm xc hb hbu);obtain⟨pa,an,ac,rfl,hat'⟩:=hat
  obtain⟨hla,_,_,_⟩:=hat'.at
  have hne:((an:Int)==0)=false:=by rw[beq_eq_false_iff_ne];simp at hla;omega
  obtain⟨hlb,hnb,hmb,hcb⟩:=hB.at
  unfold maxLen at hmb;have H:=Lib.hid h;have c0:=h.c0;have HCB:=Lib.hid hcb;have HLB:=Lib.hid hlb;have HBU:=Lib.hid hBu;rw[srch_cons];clear h hat' hla hlim hB hBu hcb hlb ih hF20;go_enter Tryz.func145,Tryz.ntmps145
  go_wp2_with fail
  go_loopw [23] (fun kv wr=>∃k:Nat,k≤un∧kv=.int .i64 k∧(B.take k).findSome? (srch1 B a rest m)=none∧∃mv',Hid (MS W0 wr X MB (.slice ua un uc) mv' m mp)∧w.heap.size≤wr.heap.size) (fun kv _=>un-(intOf kv).toNat)
  case atStart=>exact⟨0,by omega,rfl,by simp,mv,H,Nat.le_refl _⟩
  case round=>
   obtain⟨k,hk,rfl,hnone,mv',HM,hsz⟩:=hrel;by_cases hltk:k<un
   ·obtain⟨b2,off2,rfl,hbw2,hc2⟩:=HCB.out (by omega);obtain⟨e2,hd2⟩:∃e2,B[k]?=some e2:=⟨B[k]'(by rw[HLB.out];exact hltk),List.getElem?_eq_getElem (by rw[HLB.out];exact hltk)⟩
    obtain⟨xa,xm,xc,d0,d1,hdi2,hints2⟩:=atomAt (n:=un) hc2 k e2 hd2;have y0:=cellk HM.out.below d0;have y1:=cellk HM.out.below d1;have hal2:=below_alloc wr (.cells #[.int .i64 e2.1,.slice xa xm xc] 83);have HTK:=Lib.hid (fs_take (f:=srch1 B a rest m) hd2 hnone);have HHIT:=Lib.hid (fun y=>fs_hit (f:=srch1 B a rest m) (y:=y) hd2 hnone);have hk0:(0:Int)≤k:=by omega
    have hk1:(k:Int)<un:=by omega
    have HCL:=Lib.hid (HPF.out (wr.alloc (.cells #[.int .i64 e2.1,.slice xa xm xc] 83)) mv' (HM.out.grow hal2) e2 xa xm xc hints2 (HBU.out e2 (List.mem_of_getElem? hd2)));have HSA:=Lib.hid hal2.size;clear hc2 hbw2 d0 d1 hdi2 hints2 hnone hd2 hal2;go_wp2_with fail
    refine HCL.out.mono ?_;rintro e w5 ⟨yv,bb,mv2,rfl,hm5,hf5,hs5⟩;have HM5:=Lib.hid hm5;have hsz5:w.heap.size≤w5.heap.size:=Nat.le_trans hsz (Nat.le_trans HSA.out hs5)
    cases ho:srch1 B a rest m e2 with
    |none=>
     rw[ho] at hf5;obtain⟨rfl,rfl⟩:=hf5;have HO:=Lib.hid ho;clear ho hm5;go_wp2_with fail
     exact⟨⟨k+1,by omega,by simp,by rw[HTK.out,HO.out],mv2,HM5,hsz5⟩,by simp[intOf];omega⟩
    |some y=>
     rw[ho] at hf5;have HF5:=Lib.hid hf5;obtain⟨rfl,_⟩:=hf5;have HO:=Lib.hid (HHIT.out y ho);clear ho hm5;go_wp2_with fail
     go_ret2
     exact⟨yv,true,mv2,rfl,HM5.out,by rw[HO.out];exact HF5.out.wide (Nat.le_trans hsz HSA.out),hsz5⟩
   ·obtain rfl:k=un:=by omega
    have HTK:Hid (B.take k=B):=List.take_of_length_le (by rw[HLB.out];exact Nat.le_refl _);have HN:Hid (B.findSome? (srch1 B a rest m)=none):=by unfold Hid;rw[←hnone,HTK.out]
    clear hnone;go_wp2_with fail
    go_ret2
    exact⟨.slice none 0 0,false,mv',rfl,HM.out,by rw[HN.out];exact⟨rfl,rfl⟩,hsz⟩
end Go.Proofs.YtpedpbbiamhgdaaGreatDoor
namespace Go.Proofs.YtpedpbbiamhgdaaGreatDoor
open Go Go.Sort Go.RowKit Go.Shelf
set_option linter.unusedVariables false
def repL (n:Nat):List Int:=List.replicate n (-1000)++List.replicate (20-n) 0
theorem repL_len {n:Nat} (h:n≤20):(repL n).length=20:=by unfold repL;simp;omega
theorem repL_at {n j:Nat} (h:j<n):(repL n).getD j 0=-1000:=by
 unfold repL;rw[List.getD_eq_getElem?_getD,List.getElem?_append_left (by simpa using h),List.getElem?_replicate,if_pos h];rfl
theorem splice_rep {n m:Nat} (h:n+m≤20):splice ((repL n).map (Value.int .i64)) n (List.replicate m (Value.int .i64 (-1000)))=(repL (n+m)).map (Value.int .i64):=by
 unfold splice repL;simp only[List.map_append,List.map_replicate,List.length_replicate];rw[List.take_append_of_le_length (by simp),List.take_of_length_le (by simp),List.drop_append,List.drop_of_length_le (by simp)];simp only[List.length_replicate,List.nil_append,List.drop_replicate];rw[←List.append_assoc,List.replicate_append_replicate,show 20-n-(n+m-n)=20-(n+m) by omega]
theorem wpList_copy7 {P:Program} {ops:Array Oper} {rest:List Oper} {o:Oper} {a:Act} {w w':World} {Q:Exit→Act→World→Prop} {v dv sv:Value} (hgd:o.guard=none) (d s:Operand) (dT sT:TypeId)
  (ho:o.op=.call { callee:=.builtin .copy,args:=#[d,s],argTypes:=#[dT,sT] }) (hd:a.eval d=dv) (hs:a.eval s=sv) (hr:(Builtin.copy_ #[dT,sT] o.type #[dv,sv]).run P w=.ok v w') (hK:wpList P ops Q rest (a.put o.dst v) w') :
  wpList P ops Q (o::rest) a w:=by
 refine wpList_plain hgd fun K hK'=>?_
 unfold Oper.wp;simp[execOp,ho,resolve,invoke,builtin,hd,hs,hr,Result.andThen];exact hK' _ _ hK
theorem copy_rep {P:Program} (hu:P.underlying 24=some (.slice 3)) (hs:(P.info? 3).map (·.size)=some 1) {w0 w:World} {g n m dL dC sL sC:Nat} {p:Addr} (ty:TypeId) (h:Built .i64 3 w0 w (.slice (some ⟨g,0,none⟩) 20 20) (repL n)) (hnm:n+m≤20)
  (hmin:Nat.min sL dL=m) (hsrc:∀j,j<m→w.cell? (p.add j)=some (.int .i64 (-1000))) :
  ∃w',(Builtin.copy_ #[24,24] ty #[.slice (some ⟨g,n,none⟩) dL dC,.slice (some p) sL sC]).run P w=.ok (goInt m) w'∧Built .i64 3 w0 w' (.slice (some ⟨g,0,none⟩) 20 20) (repL (n+m)):=by
 have hl:=repL_len (n:=n) (by omega);have hB:BuiltC 3 1 w0 w (.slice (some ⟨g,0,none⟩) 20 20) 20 ((repL n).map (Value.int .i64)):=by have:=h;unfold Built at this;rw[hl] at this;exact this
 obtain⟨cur,hg,htk,hle,hsp⟩:=hB.splice;have hsp2:=hsp n (List.replicate m (Value.int .i64 (-1000))) (by simp;omega);rw[splice_rep hnm] at hsp2;refine⟨_,run_copy_rowC w 24 24 ty 3 1 m g n dL dC p sL sC cur 3 (List.replicate m (Value.int .i64 (-1000))) hu hs hg hmin (by simp) (fun j v hv=>?_) (by simp;omega) (fun v hv=>by rw[List.eq_of_mem_replicate hv];rfl),?_⟩
 ·rw[List.getElem?_replicate] at hv
  split at hv
  ·rename_i hj;cases hv;exact hsrc j hj
  ·cases hv
 ·unfold Built;rw[repL_len hnm];exact hsp2
set_option maxRecDepth 100000 in
set_option maxHeartbeats 800000 in
theorem iRepeat_any (w:World) (P0:Nat) (hx:w.cell? ⟨P0,0,none⟩=some (.int .i64 (-1000))) :
  Calls Tryz.prog 174 #[.slice (some ⟨P0,0,none⟩) 1 1,.int .i64 20] w (fun e w'=>∃g,e=.returned (.slice (some ⟨g,0,none⟩) 20 20)∧Built .i64 3 w w' (.slice (some ⟨g,0,none⟩) 20 20) unm20):=by
 have HM:=Lib.hid (fun w=>Tryz.bits_Mul 1 20 (by decide) (by decide) w);have HX:=Lib.hid hx;clear hx;go_enter Tryz.func174,Tryz.ntmps174
 go_wp2_with fail
 refine (HM.out _).mono ?_;rintro e w1 ⟨rfl,rfl⟩;go_wp2_with (at_make;refine wpList_make_built rfl (.tmp 29) (.tmp 29) 24 rfl .i64 3 0 8 Tryz.underlying24 info_i64 (by decide) (Below.refl _ w1) .i64 .i64 20 rfl rfl (by omega) ?_)
 intro w2 hb2;have hB0:Built .i64 3 w1 w2 (.slice (some ⟨w1.heap.size,0,none⟩) 20 20) (repL 0):=hb2;have hx2:=cellk hB0.below HX.out
 obtain⟨w3,hr3,hB3⟩:=copy_rep (P:=Tryz.prog) Tryz.underlying24 (by kernel_rfl) (n:=0) (m:=1) (dL:=20) (dC:=20) (sL:=1) (sC:=1) (p:=⟨P0,0,none⟩) 3 hB0 (by omega) (by decide) (fun j hj=>by
   have e:j=0:=by omega
   subst e;rw[Addr.add_lit];exact hx2)
 have HB3:=Lib.hid hB3;obtain⟨g,hg⟩:∃g,w1.heap.size=g:=⟨_,rfl⟩
 rw[hg] at hr3 HB3 ⊢;clear hb2 hB0 hx2 hB3 hg;go_wp2_with (at_builtin;refine wpList_copy7 rfl (.tmp 31) (.tmp 32) 24 24 rfl rfl rfl hr3 ?_)
 go_loopw [8] (fun iv wr=>∃n:Nat,1≤n∧n≤20∧iv=.int .i64 n∧Hid (Built .i64 3 w1 wr (.slice (some ⟨g,0,none⟩) 20 20) (repL n))) (fun iv _=>20-(intOf iv).toNat)
 case atStart=>exact⟨1,by omega,by omega,rfl,HB3⟩
 case round=>
  obtain⟨n,hn1,hn,rfl,HB⟩:=hrel;by_cases hlt:n<20
  ·have hn0:(0:Int)≤n:=by omega
   have hn2:(n:Int)<20:=by omega
   have hn3:(n:Int)≤20:=by omega
   obtain⟨m,hm⟩:∃m,Nat.min n (20-n)=m:=⟨_,rfl⟩
   have hm1:1≤m∧m≤n∧n+m≤20:=by
    have:m=min n (20-n):=hm.symm;omega
   obtain⟨w4,hr4,hB4⟩:=copy_rep (P:=Tryz.prog) (w0:=w1) (w:=wr.drew) Tryz.underlying24 (by kernel_rfl) (n:=n) (m:=m) (dL:=20-n) (dC:=20-n) (sL:=n) (sC:=20) (p:=⟨g,0,none⟩) 3 HB.out.drew hm1.2.2 hm (fun j hj=>by
    have h1:=Built.cell ((repL_len hn).symm ▸ HB.out:Built .i64 3 w1 wr (.slice (some ⟨g,0,none⟩) (repL n).length 20) (repL n)) j (by rw[repL_len hn];omega);rw[repL_at (by omega)] at h1;rw[Addr.add_lit,Nat.zero_add];exact h1)
   have HB4:=Lib.hid hB4;have hnm:¬(20=n):=by omega
   clear hB4;go_wp2_with fail
   have HWR:Hid (IntKind.i64.wrap ((n:Int)+(m:Int))=((n+m:Nat):Int)):=by unfold Hid;rw[IntKind.wrap_i64];omega
   clear hm
   go_region_law (first
    |fail)
   all_goals go_simp
   all_goals rw[HWR.out]
   all_goals go_roundw
   case rel=>exact⟨_,_,_,_,_,_,_,_,_,_,_,_,_,_,⟨n+m,by omega,by omega,rfl,HB4⟩,rfl⟩
   case measure=>simp[intOf];omega
  ·obtain rfl:n=20:=by omega
   have HB2:Hid (Built .i64 3 w1 wr (.slice (some ⟨g,0,none⟩) 20 20) unm20):=HB.out;go_wp2_with fail
   go_ret;exact⟨g,rfl,HB2.out⟩
end Go.Proofs.YtpedpbbiamhgdaaGreatDoor
namespace Go.Proofs.YtpedpbbiamhgdaaGreatDoor
open Go Go.Sort Go.RowKit
set_option linter.unusedVariables false
theorem built_rebase {W w1 w:World} {v:Value} {l:List Int} (h:Built .i64 3 w1 w v l) (hb:Below W.heap.size W w1):Built .i64 3 W w v l:=by
 refine⟨⟨h.1.1,?_⟩,bnext hb h.2⟩;rcases h.1.2 with h1|⟨g,cap,cur,rfl,h1,hg,h2⟩
 ·exact .inl h1
 ·exact .inr ⟨g,cap,cur,rfl,Nat.le_trans hb.size h1,hg,h2⟩
theorem MS.new {w w1 w2:World} {g:Nat} {av:Value} (hb:Below w.heap.size w w1) (h:Built .i64 3 w1 w2 (.slice (some ⟨g,0,none⟩) 20 20) unm20):MS w (w2.alloc (.cells #[av,.slice (some ⟨g,0,none⟩) 20 20,.slice none 0 0] 200)) w2.heap.size g av (.slice none 0 0) unm20 []:=by
 have h1:=built_rebase h hb;have hlt:=BuiltC.lt h1;have hal:=below_alloc w2 (.cells #[av,.slice (some ⟨g,0,none⟩) 20 20,.slice none 0 0] 200);have hg:=heap_alloc_new w2 (.cells #[av,.slice (some ⟨g,0,none⟩) 20 20,.slice none 0 0] 200);refine⟨newBox w2 _ _ _ _ rfl,newBox w2 _ _ _ _ rfl,newBox w2 _ _ _ _ rfl,by unfold World.frozen?;rw[hg];simp,h1.grow hal,BuiltC.nil _ _ _ _ (bnext h1.below hal),by omega,by simp[blk],by simp[blk],h1.below.size,by simp,by simp[unm20],by simp,fun x hx=>by rw[List.eq_of_mem_replicate hx];unfold inI;omega⟩
set_option maxRecDepth 100000 in
set_option maxHeartbeats 2000000 in
theorem iNew_any (w:World) (ta ua:Option Addr) (tn tc un uc:Nat) :
  Calls Tryz.prog 143 #[.agg #[.slice ta tn tc,.slice ua un uc]] w (fun e w'=>∃X MB,e=.returned (.pointer (some ⟨X,0,none⟩))∧MS w w' X MB (.slice ua un uc) (.slice none 0 0) unm20 []):=by
 obtain⟨W,hW⟩:∃W,W=w.alloc (.cells #[.slice ta tn tc,.slice ua un uc] 29):=⟨_,rfl⟩
 have hbW:Below w.heap.size w W:=by rw[hW];exact below_alloc _ _
 have q1:W.cell? ⟨w.heap.size,1,none⟩=some (.slice ua un uc):=by rw[hW];exact newBox w _ _ _ _ rfl
 have HWE:=Lib.hid hW;have HBW:=Lib.hid hbW;have hal:=below_alloc W (.cells #[.int .i64 (-1000)] 3);have HDA:=Lib.hid (bnext hbW hal).drew;have q1a:=cellk hal q1;have HREP:=Lib.hid (iRepeat_any (W.alloc (.cells #[.int .i64 (-1000)] 3)).drew W.heap.size (newBox W #[.int .i64 (-1000)] 3 0 _ rfl));clear hW hbW hal;go_enter Tryz.func143,Tryz.ntmps143
 go_upto_region 1 with fail
 rw[←HWE.out];clear HWE
 go_region_law (first
  |(go_simp;go_at_call 174;refine HREP.out.mono ?_;rintro e2 w2 ⟨g,rfl,hB⟩;have q1b:=cellk hB.below q1a;have HMS:=Lib.hid (MS.new (av:=.slice ua un uc) HDA.out hB)))
 all_goals (go_wp2_with fail;go_ret)
 all_goals exact⟨_,_,rfl,HMS.out⟩
set_option maxRecDepth 100000 in
set_option maxHeartbeats 4000000 in
theorem iSearchM_any (w:World) (vf vt:Value) (f t:QueryD) (hf:RdQuery w vf f) (ht:RdQuery w vt t) (h1:∀x∈f.1,x<20) (h2:∀a∈f.2,∀x∈a.2,x<20) (h3:∀x∈t.1,x≠-1000) (h4:∀b∈t.2,∀x∈b.2,x≠-1000) (hlim:f.1.length+sumArgs f.2≤1000000) :
  Calls Tryz.prog 97 #[vf,vt] w (fun e w'=>∃yv b,e=.returned (.tuple #[yv,.bool b])∧FoundO w w' (findN f t) yv b∧Below w.heap.size w w'):=by
 obtain⟨fa,fn,fc,ga,gn,gc,rfl,hf1,hf2⟩:=hf;obtain⟨ta,tn,tc,ua,un,uc,rfl,ht1,ht2⟩:=ht;obtain⟨W,hW⟩:∃W,W=((w.alloc (.cells #[.slice fa fn fc,.slice ga gn gc] 29)).alloc (.cells #[.slice ta tn tc,.slice ua un uc] 29)):=⟨_,rfl⟩
 have hbW:Below w.heap.size w W:=by rw[hW];exact ((Below.refl _ _).alloc (Nat.le_refl _) _).alloc (by simp) _
 have q0:W.cell? ⟨w.heap.size,0,none⟩=some (.slice fa fn fc):=by rw[hW];simp
 have q1:W.cell? ⟨w.heap.size,1,none⟩=some (.slice ga gn gc):=by rw[hW];simp
 have q2:W.cell? ⟨w.heap.size+1,0,none⟩=some (.slice ta tn tc):=by rw[hW];simp
 have q3:W.cell? ⟨w.heap.size+1,1,none⟩=some (.slice ua un uc):=by rw[hW];simp
 have HWE:=Lib.hid hW;have HBW:=Lib.hid hbW;have HF1:=Lib.hid (hf1.below hbW);have HT1:=Lib.hid (ht1.below hbW);have HF2:Hid (RdAtomS W (.slice ga gn gc) f.2):=RdAtomS.below ⟨_,_,_,rfl,hf2⟩ hbW;have HT2:Hid (RdSl 2 CsAtom W (.slice ua un uc) t.2):=RdSl.below ht2 (fun _ _ h=>h.below hbW) hbW;have H1:=Lib.hid h1;have H2:=Lib.hid h2;have H3:=Lib.hid h3;have H4:=Lib.hid h4;have HLIM:=Lib.hid hlim;have HNW:=Lib.hid (iNew_any W ta ua tn tc un uc);clear hf1 hf2 ht1 ht2 h1 h2 h3 h4 hlim hW hbW;go_enter Tryz.func97,Tryz.ntmps97
 go_upto_region 1 with fail
 rw[←HWE.out];clear HWE;go_wp2_with fail
 refine HNW.out.mono ?_;rintro e w1 ⟨X,MB,rfl,hms⟩;have r0:=cellk hms.below q0;have r1:=cellk hms.below q1;have r2:=cellk hms.below q2;have HM1:=Lib.hid hms;have HTA:=Lib.hid (iTurnAll_any W w1 X MB (.slice ua un uc) (.slice none 0 0) unm20 [] hms (.slice fa fn fc) (.slice ta tn tc) f.1 t.1 HF1.out HT1.out H1.out H3.out (by have:=HLIM.out;simp;omega));clear hms;go_wp2_with fail
 refine HTA.out.mono ?_;rintro e w2 ⟨mv2,mp2,m2,rfl,hm2,he2,hx2,hp2,hs2⟩;have s1:=cellk hm2.below q1;have HM2:=Lib.hid hm2;have HB2:=Lib.hid (bnext HBW.out hm2.below);have HSZ:Hid (w.heap.size≤w2.heap.size):=HB2.out.size
 cases hp:(decide (f.1.length=t.1.length)&&(uniF unm20 f.1 t.1).2) with
 |false=>
  have HN:Hid (findN f t=none):=by unfold Hid findN;rw[if_neg (fun h=>by have h5:=h.2;change (uniF unm20 f.1 t.1).2=true at h5;rw[decide_eq_true h.1,h5] at hp;cases hp)]
  clear hp hm2 he2 hx2 hp2;go_wp2_with fail
  go_ret2
  exact⟨.slice none 0 0,false,rfl,by rw[HN.out];exact⟨rfl,rfl⟩,HB2.out⟩
 |true=>
  have hp5:f.1.length=t.1.length∧(uniF unm20 f.1 t.1).2=true:=by simpa using hp
  have HN:Hid (findN f t=srch t.2 f.2 m2):=by unfold Hid findN;rw[if_pos ⟨hp5.1,hp5.2⟩,he2 hp5.1];rfl
  have HPL:=Lib.hid (iPlace_any W X MB ua un uc t.2 HT2.out H4.out f.2 H2.out w2 (.slice ga gn gc) mv2 m2 mp2 HF2.out HM2.out (by have:=HLIM.out;simp at hp2;omega));clear hp hm2 he2 hx2 hp2 hp5;go_wp2_with fail
  refine HPL.out.mono ?_;rintro e w3 ⟨yv,bb,mv3,rfl,hm3,hf3,hs3⟩;have HF3:=Lib.hid hf3;have HB3:=Lib.hid (bnext HBW.out hm3.below);clear hm3 hf3;go_wp2_with fail
  go_ret2
  exact⟨yv,bb,rfl,by rw[HN.out];exact HF3.out.wide HSZ.out,HB3.out⟩
theorem sum_le3:∀{l:List AtomD},(∀a∈l,a.2.length≤3)→sumArgs l≤3*l.length
 |[],_=>by simp[sumArgs]
 |a::l,h=>by
  have h1:=sum_le3 (l:=l) (fun x hx=>h x (List.mem_cons_of_mem _ hx));have h2:=h a (List.mem_cons_self ..);have h3:sumArgs (a::l)=a.2.length+sumArgs l:=by unfold sumArgs;simp
  rw[h3,List.length_cons];omega
theorem terms_3 {l:List Int} (h:termsB l=true):l.length≤3:=by
 unfold termsB at h;rw[Bool.and_eq_true] at h;exact of_decide_eq_true h.2
theorem f7_sum {s:List Int} {d:QueryD} (h:fineB s d 4=true):d.1.length+sumArgs d.2≤1000000:=by
 unfold fineB at h;simp only[Bool.and_eq_true] at h;have h1:=terms_3 h.2.1;have h2:(1:Int)≤d.2.length∧(d.2.length:Int)≤4:=of_decide_eq_true h.2.2.1
 have h3:=sum_le3 (l:=d.2) (fun a ha=>by
  have h4:=List.all_eq_true.1 h.2.2.2.1 a ha;unfold isAtomB at h4;simp only[Bool.and_eq_true] at h4;exact terms_3 h4.2)
 omega
theorem oints_nil (w:World):OInts w (.slice none 0 0) [] []:=⟨Ints.nil w,.inl ⟨none,0,rfl,rfl⟩⟩
theorem fresh_nil (w w':World):Fresh w w' []:=⟨List.Pairwise.nil,fun b hb=>by cases hb⟩
set_option maxHeartbeats 2000000 in
theorem iFindMapping_any (w:World) (vs vf vt:Value) (s:List Int) (f t:QueryD) (hs:RdSchema w vs s) (hf:RdQuery w vf f) (ht:RdQuery w vt t) (hz:sizeAtomS f.2≤1048576) (hz2:sizeAtomS t.2≤1048576) :
  Calls Tryz.prog 43 #[vs,vf,vt] w (fun e w'=>∃yv bs,e=.returned (.tuple #[yv,.bool (fmN s f t).isSome])∧OInts w' yv ((fmN s f t).getD []) bs∧Fresh w w' bs∧Below w.heap.size w w'):=by
 have HI1:=Lib.hid (fun W hb=>iIsQuery_any W vs vf s f (RdSchema.below hs hb) (RdQuery.below hf hb) hz);have HI2:=Lib.hid (fun W hb=>iIsQuery_any W vs vt s t (RdSchema.below hs hb) (RdQuery.below ht hb) hz2);have HI3:=Lib.hid (fun W (hb:Below w.heap.size w W) (h:fineB s f 4=true) (h':fineB s t 4=true)=>iSearchM_any W vf vt f t (RdQuery.below hf hb) (RdQuery.below ht hb) (fun x hx=>(f7_head h x hx).2) (fun a ha x hx=>(f7_body h a ha x hx).2) (fun x hx=>by have:=(f7_head h' x hx).1;omega) (fun a ha x hx=>by have:=(f7_body h' a ha x hx).1;omega) (f7_sum h));obtain⟨sa,sn,sc,rfl,hs⟩:=hs;obtain⟨fa,fn,fc,ga,gn,gc,rfl,hf1,hf2⟩:=hf;obtain⟨ta,tn,tc,ua,un,uc,rfl,ht1,ht2⟩:=ht;have hb0:∀a b c,Below w.heap.size w (((w.alloc a).alloc b).alloc c):=fun a b c=>(((Below.refl _ _).alloc (Nat.le_refl _) _).alloc (by simp) _).alloc (by simp;omega) _
 have HB0:=Lib.hid hb0;obtain⟨p1,hp1⟩:∃p,fineB s f 4=p:=⟨_,rfl⟩
 obtain⟨p2,hp2⟩:∃p,fineB s t 4=p:=⟨_,rfl⟩
 rw[hp1] at HI1 HI3;rw[hp2] at HI2 HI3;have HFN:Hid (fmN s f t=if (p1&&p2)=true then findN f t else none):=by unfold Hid fmN;rw[hp1,hp2]
 clear hs hf1 hf2 ht1 ht2 hz hz2 hb0 hp1 hp2;go_enter Tryz.func43,Tryz.ntmps43
 go_wp2_with fail
 obtain⟨W,hW⟩:∃W,W=((w.alloc (.cells #[.slice sa sn sc] 26)).alloc (.cells #[.slice fa fn fc,.slice ga gn gc] 29)).alloc (.cells #[.slice ta tn tc,.slice ua un uc] 29):=⟨_,rfl⟩
 have HBW:Hid (Below w.heap.size w W):=by rw[hW];exact HB0.out _ _ _
 have q0:W.cell? ⟨w.heap.size,0,none⟩=some (.slice sa sn sc):=by rw[hW];exact box1 _ _ _ _ _ _ _ rfl
 have q1:W.cell? ⟨w.heap.size+1,0,none⟩=some (.slice fa fn fc):=by rw[hW];exact box2 _ _ _ _ _ _ _ rfl
 have q2:W.cell? ⟨w.heap.size+1,1,none⟩=some (.slice ga gn gc):=by rw[hW];exact box2 _ _ _ _ _ _ _ rfl
 have q3:W.cell? ⟨w.heap.size+1+1,0,none⟩=some (.slice ta tn tc):=by rw[hW];exact box3 _ _ _ _ _ _ _ rfl
 have q4:W.cell? ⟨w.heap.size+1+1,1,none⟩=some (.slice ua un uc):=by rw[hW];exact box3 _ _ _ _ _ _ _ rfl
 rw[←hW];clear hW;refine (HI1.out _ HBW.out).mono ?_;rintro e w1 ⟨rfl,hb⟩;replace q0:=cellk hb q0;replace q1:=cellk hb q1;replace q2:=cellk hb q2;replace q3:=cellk hb q3;replace q4:=cellk hb q4;have HB1:=Lib.hid (bnext HBW.out hb);clear hb
 cases p1 with
 |false=>
  have HN:Hid (fmN s f t=none):=HFN.out;go_wp2_with fail
  go_ret2
  exact⟨.slice none 0 0,[],by rw[HN.out];rfl,by rw[HN.out];exact oints_nil w1,fresh_nil w w1,HB1.out⟩
 |true=>
  go_wp2_with fail
  refine (HI2.out _ HB1.out).mono ?_;rintro e w2 ⟨rfl,hb⟩;replace q0:=cellk hb q0;replace q1:=cellk hb q1;replace q2:=cellk hb q2;replace q3:=cellk hb q3;replace q4:=cellk hb q4;have HB2:=Lib.hid (bnext HB1.out hb);clear hb
  cases p2 with
  |false=>
   have HN:Hid (fmN s f t=none):=HFN.out;go_wp2_with fail
   go_ret2
   exact⟨.slice none 0 0,[],by rw[HN.out];rfl,by rw[HN.out];exact oints_nil w2,fresh_nil w w2,HB2.out⟩
  |true=>
   have HN:Hid (fmN s f t=findN f t):=HFN.out;go_wp2_with fail
   refine (HI3.out _ HB2.out (by first|exact rfl|trivial) (by first|exact rfl|trivial)).mono ?_;rintro e w3 ⟨yv,bb,rfl,hfd,hb⟩;have HB3:=Lib.hid (bnext HB2.out hb);have HFD:=Lib.hid (hfd.wide HB2.out.size);clear hb hfd
   cases ho:findN f t with
   |none=>
    have hfd:=HFD.out;rw[ho] at hfd;obtain⟨rfl,rfl⟩:=hfd;have HO:Hid (fmN s f t=none):=by unfold Hid;rw[HN.out,ho]
    clear ho;go_wp2_with fail
    go_ret2
    exact⟨.slice none 0 0,[],by rw[HO.out];rfl,by rw[HO.out];exact oints_nil w3,fresh_nil w w3,HB3.out⟩
   |some y=>
    have hfd:=HFD.out;rw[ho] at hfd;obtain⟨rfl,bs,hoi,hfr⟩:=hfd;have HO:Hid (fmN s f t=some y):=by unfold Hid;rw[HN.out,ho]
    have HOI:=Lib.hid hoi;have HFR:=Lib.hid hfr;clear ho hoi hfr;go_wp2_with fail
    go_ret2
    exact⟨yv,bs,by rw[HO.out];rfl,by rw[HO.out];exact HOI.out,HFR.out,HB3.out⟩
end Go.Proofs.YtpedpbbiamhgdaaGreatDoor
