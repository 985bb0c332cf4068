import Derived.Test.YtpedpbbiamhgdaaGreatDoorS13x
import Derived.Test.YtpedpbbiamhgdaaGreatDoorIrAll
import Derived.Test.YtpedpbbiamhgdaaGreatDoorI13a
import Derived.Test.YtpedpbbiamhgdaaGreatDoorI12x
import Derived.Test.YtpedpbbiamhgdaaGreatDoorI9x
import Derived.Lib.QuietBelow
import Derived.ScopeJumps
import Derived.WalkMore
import Derived.Test.YtpedpbbiamhgdaaGreatDoorLawK
namespace Go.Proofs.YtpedpbbiamhgdaaGreatDoor
open Go Go.Sort Go.RowKit
set_option linter.unusedVariables false
def ArL (l:List AtomD):Prop:=∀x∈l,∀y∈l,x.1=y.1→x.2.length=y.2.length
theorem viol_pv {l:List AtomD} (h:ArL l) (ks:List AtomD) (n i j:Nat):violB l ks n i j=pvB l ks n i j:=by
 cases hk:ks[n]? with
 |none=>unfold violB pvB;rw[hk]
 |some k=>
  cases hx:l[i]? with
  |none=>unfold violB pvB;rw[hk,hx]
  |some x=>
   cases hy:l[j]? with
   |none=>unfold violB pvB;rw[hk,hx,hy]
   |some y=>
    rw[viol_at hk hx hy,pv_at hk hx hy];by_cases h1:x.1=k.1
    ·by_cases h2:y.1=k.1
     ·have:=h x (mem_at13 hx) y (mem_at13 hy) (h1.trans h2.symm);rw[decide_eq_true this,Bool.true_and]
     ·rw[decide_eq_false h2,Bool.false_and,Bool.false_and]
    ·rw[decide_eq_false h1,Bool.false_and,Bool.false_and]
theorem fv_pv {l:List AtomD} (h:ArL l) (ks:List AtomD):(fvN l ks).2.1=(pvN l ks).1∧(fvN l ks).2.2=(pvN l ks).2.1:=by
 by_cases hE:∃t:Nat × Nat × Nat,FirstV l ks t.1 t.2.1 t.2.2
 ·obtain⟨⟨n,i,j⟩,hF⟩:=hE;have hG:FirstG (pvB l ks) n i j:=⟨by rw[←viol_pv h];exact hF.1,hF.2.1,fun n' i' j' h1 h2=>hF.2.2 n' i' j' h1 (by rw[viol_pv h];exact h2)⟩;rw[fv_at hF,pvN_at hG];exact⟨rfl,rfl⟩
 ·by_cases hG:∃t:Nat × Nat × Nat,FirstG (pvB l ks) t.1 t.2.1 t.2.2
  ·obtain⟨⟨n,i,j⟩,hF⟩:=hG;exact absurd ⟨(n,i,j),by rw[viol_pv h];exact hF.1,hF.2.1,fun n' i' j' h1 h2=>hF.2.2 n' i' j' h1 (by rw[←viol_pv h];exact h2)⟩ hE
  ·unfold fvN pvN;rw[dif_neg hE,dif_neg hG];exact⟨rfl,rfl⟩
theorem mentB_iff (l:List AtomD) (t:Int):mentB l t=true↔∃a∈l,t∈a.2:=by
 unfold mentB;rw[List.any_eq_true];constructor
 ·rintro⟨a,h1,h2⟩;exact⟨a,h1,of_decide_eq_true h2⟩
 ·rintro⟨a,h1,h2⟩;exact⟨a,h1,decide_eq_true h2⟩
theorem fine13 (s:List Int) (d:QueryD):fineB s d 4=true↔isSchemaB s=true∧termsB d.1=true∧inB d.2.length 1 4=true∧(∀x∈d.2,isAtomB s x.1 x.2=true)∧∀t∈d.1,varB t=true→∃a∈d.2,t∈a.2:=by
 unfold fineB;rw[Bool.and_eq_true,Bool.and_eq_true,Bool.and_eq_true,Bool.and_eq_true,List.all_eq_true,List.all_eq_true];refine and_congr Iff.rfl (and_congr Iff.rfl (and_congr Iff.rfl (and_congr Iff.rfl ?_)));refine forall_congr' fun t=>imp_congr Iff.rfl ?_
 rw[headOk_ment,Bool.or_eq_true,←mentB_iff]
 cases varB t<;>simp
theorem isAtom13 (s:List Int) (r:Int) (l:List Int):isAtomB s r l=true↔isSchemaB s=true∧inB r 0 (s.length-1)=true∧(l.length:Int)=s.getD r.toNat 0∧termsB l=true:=by
 unfold isAtomB;rw[Bool.and_eq_true,Bool.and_eq_true,Bool.and_eq_true,decide_eq_true_eq,and_assoc,and_assoc]
theorem terms13 (l:List Int):termsB l=true↔(∀t∈l,termB t=true)∧l.length≤3:=by
 unfold termsB;rw[Bool.and_eq_true,List.all_eq_true,decide_eq_true_eq]
theorem termsB_swap {l:List Int} {t u:Int} (h:termsB l=true) (hu:termB u=true):termsB (swapL l t u)=true:=by
 rw[terms13] at h ⊢;refine⟨fun x hx=>?_,by rw[swapL_len];exact h.2⟩;unfold swapL at hx;obtain⟨y,hy,rfl⟩:=List.mem_map.1 hx
 split
 ·exact hu
 ·exact h.1 y hy
theorem fine_ar {s:List Int} {d:QueryD} (h:fineB s d 4=true):ArL d.2:=fun x hx y hy e=>by
 obtain⟨_,_,_,h4,_⟩:=(fine13 s d).1 h;have a:=((isAtom13 _ _ _).1 (h4 x hx)).2.2.1;have b:=((isAtom13 _ _ _).1 (h4 y hy)).2.2.1;rw[e] at a;omega
theorem fine_term13 {s:List Int} {d:QueryD} (h:fineB s d 4=true) {x:AtomD} (hx:x∈d.2) {t:Int} (ht:t∈x.2):termB t=true:=by
 obtain⟨_,_,_,h4,_⟩:=(fine13 s d).1 h;exact ((terms13 _).1 ((isAtom13 _ _ _).1 (h4 x hx)).2.2.2).1 t ht
theorem fine_swp {s:List Int} {d:QueryD} {t u:Int} (h:fineB s d 4=true) (hu:termB u=true) (hm:∃a∈d.2,u∈a.2):fineB s (swpQ d t u) 4=true:=by
 obtain⟨h1,h2,h3,h4,h5⟩:=(fine13 s d).1 h;refine (fine13 s _).2 ⟨h1,termsB_swap h2 hu,by unfold swpQ;simpa using h3,fun x hx=>?_,fun x hx hv=>?_⟩
 ·obtain⟨y,hy,rfl⟩:=List.mem_map.1 (show x∈d.2.map (swpA t u) from hx);obtain⟨a1,a2,a3,a4⟩:=(isAtom13 _ _ _).1 (h4 y hy);exact (isAtom13 _ _ _).2 ⟨a1,a2,by unfold swpA;dsimp only;rw[swapL_len];exact a3,termsB_swap a4 hu⟩
 ·obtain⟨y,hy,rfl⟩:=List.mem_map.1 (show x∈d.1.map _ from hx)
  have key:∀z,(∃a∈d.2,z∈a.2)→∃a∈(swpQ d t u).2,(if z=t then u else z)∈a.2:=by
   rintro z ⟨a,ha,hz⟩;exact⟨swpA t u a,List.mem_map.2 ⟨a,ha,rfl⟩,List.mem_map.2 ⟨z,hz,rfl⟩⟩
  by_cases e:y=t
  ·subst e;rw[if_pos rfl] at hv ⊢;by_cases e2:u=y
   ·subst e2;have:=key u hm
    rwa [if_pos rfl] at this
   ·have:=key u hm
    rwa [if_neg e2] at this
  ·rw[if_neg e] at hv ⊢;have:=key y (h5 y hy hv)
   rwa [if_neg e] at this
theorem fine_dd {s:List Int} {d:QueryD} (h:fineB s d 4=true):fineB s (ddQ d) 4=true:=by
 obtain⟨h1,h2,h3,h4,h5⟩:=(fine13 s d).1 h;refine (fine13 s _).2 ⟨h1,h2,?_,fun x hx=>h4 x ((ddA_mem d.2 x).1 hx),fun t ht hv=>?_⟩
 ·have h6:=of_decide_eq_true h3;have h7:=ddA_len d.2;refine decide_eq_true ⟨?_,?_⟩
  ·have h8:d.2≠[]:=by intro e;rw[e] at h6;simp at h6
   obtain⟨a,ha⟩:=List.exists_mem_of_ne_nil _ h8;have:=List.length_pos_of_mem ((ddA_mem d.2 a).2 ha);show (1:Int)≤((ddA d.2).length:Int);omega
  ·show ((ddA d.2).length:Int)≤4;omega
 ·obtain⟨a,ha,hm⟩:=h5 t ht hv;exact⟨a,(ddA_mem d.2 a).2 ha,hm⟩
theorem chase_round {s:List Int} {d:QueryD} {ks:List AtomD} (h:fineB s d 4=true) (h0:¬(pvN d.2 ks).1<0) :
  ∃(i j p:Nat) (x y:AtomD),pvN d.2 ks=((i:Int),(j:Int),(p:Int))∧p=dif x.2 y.2∧d.2[i]?=some x∧d.2[j]?=some y∧argsAt d.2 i=x.2∧argsAt d.2 j=y.2∧x.2.length=y.2.length∧p<x.2.length∧x.2.getD p 0≠y.2.getD p 0∧termB (x.2.getD p 0)=true∧termB (y.2.getD p 0)=true:=by
 rcases pvN_or d.2 ks with e|⟨i,j,x,y,e,hx,hy,ex,ey,hl,hne⟩
 ·rw[e] at h0;simp at h0
 ·obtain⟨hp,hq⟩:=dif_ne hl hne;refine⟨i,j,dif x.2 y.2,x,y,by rw[e,ex,ey],rfl,hx,hy,ex,ey,hl,hp,hq,fine_term13 h (mem_at13 hx) (mem_getD hp),fine_term13 h (mem_at13 hy) (mem_getD (by omega))⟩
theorem eqOk_ne {t u:Int} (h:t≠u):eqOk t u = !decide (max t u<0):=by
 unfold eqOk;rw[decide_eq_false h,Bool.false_or]
 congr 1
 rw[Bool.eq_iff_iff,Bool.and_eq_true,decide_eq_true_eq,decide_eq_true_eq,decide_eq_true_eq];omega
theorem eqQ_ne {d:QueryD} {t u:Int} (h:t≠u) (h0:¬max t u<0):eqQ d t u=swpQ d (max t u) (min t u):=by
 unfold eqQ;rw[if_neg h];by_cases h1:t<0
 ·rw[if_pos h1,if_neg (by omega),Int.max_eq_right (by omega),Int.min_eq_left (by omega)]
 ·rw[if_neg h1];by_cases h2:u<0
  ·rw[if_pos h2,Int.max_eq_left (by omega),Int.min_eq_right (by omega)]
  ·rw[if_neg h2]
theorem chase_fine {s:List Int} (ks:List AtomD):∀(f:Nat) (d x:QueryD),fineB s d 4=true→chF ks f d=some x→fineB s x 4=true∧x.1.length=d.1.length∧sizeQuery x≤sizeQuery d
 |0,d,x,h,e=>by cases e
 |f+1,d,x,h,e=>by
  unfold chF at e
  split at e
  ·cases e;refine⟨fine_dd h,rfl,?_⟩;have:=ddA_size d.2;unfold sizeQuery ddQ;dsimp only;omega
  ·rename_i h0
   split at e
   ·rename_i hok
    obtain⟨i,j,p,a,b,e1,_,hx,hy,ex,ey,hl,hp,hne,ht,hu⟩:=chase_round h h0;simp only[e1,Int.toNat_natCast,ex,ey] at e hok;rw[eqOk_ne hne] at hok;have h2:¬max (a.2.getD p 0) (b.2.getD p 0)<0:=by simpa using hok
    rw[eqQ_ne hne h2] at e
    have hmin:termB (min (a.2.getD p 0) (b.2.getD p 0))=true∧∃c∈d.2,min (a.2.getD p 0) (b.2.getD p 0)∈c.2:=by
     rcases Int.le_total (a.2.getD p 0) (b.2.getD p 0) with h3|h3
     ·rw[Int.min_eq_left h3];exact⟨ht,a,mem_at13 hx,mem_getD hp⟩
     ·rw[Int.min_eq_right h3];exact⟨hu,b,mem_at13 hy,mem_getD (by omega)⟩
    obtain⟨r1,r2,r3⟩:=chase_fine ks f _ x (fine_swp h hmin.1 hmin.2) e;refine⟨r1,by rw[r2];exact swapL_len _ _ _,by rw[swpQ_size] at r3;exact r3⟩
   ·cases e
theorem chQ_fine {s:List Int} {ks:List AtomD} {d x:QueryD} (h:fineB s d 4=true) (e:chQ ks d=some x):fineB s x 4=true∧x.1.length=d.1.length∧sizeQuery x≤sizeQuery d:=chase_fine ks _ d x h e
set_option linter.unusedSimpArgs false
theorem info_Fact13:(Tryz.prog.info? 127).map (fun i=>(i.zero,i.size,i.bytes))=some (some (.agg #[.int .i64 0,.slice none 0 0]),2,32):=by kernel_rfl
def FcI (w wr:World) (g n:Nat) (l:List AtomD) (i:Nat):Prop:=∃cs,BuiltC 127 2 w wr (.slice (some ⟨g,0,none⟩) n n) n cs∧∀(j:Nat) (d:AtomD),j<i→l[j]?=some d→∃a m c,cs[j*2]?=some (.int .i64 d.1)∧cs[j*2+1]?=some (.slice a m c)∧inI d.1∧Ints w (.slice a m c) d.2
theorem FcI.step {w wr w2:World} {g n i:Nat} {l:List AtomD} {d:AtomD} {a:Option Addr} {m c:Nat} (h:FcI w wr g n l i) (hb:Below wr.heap.size wr w2) (hi:i<n) (hd:l[i]?=some d) (hr:inI d.1) (hx:Ints w (.slice a m c) d.2) :
  FcI w ((w2.setCell ⟨g,i*2,none⟩ (.int .i64 d.1)).setCell ⟨g,i*2+1,none⟩ (.slice a m c)) g n l (i+1):=by
 obtain⟨cs,h1,h2⟩:=h;have hl:=h1.len;refine⟨(cs.set (i*2) (.int .i64 d.1)).set (i*2+1) (.slice a m c),((h1.grow hb).store _ _).store _ _,fun j e hj he=>?_⟩;rcases Nat.lt_or_ge j i with h3|h3
 ·obtain⟨a',m',c',e1,e2,e3,e4⟩:=h2 j e h3 he;refine⟨a',m',c',?_,?_,e3,e4⟩
  ·rw[List.getElem?_set_ne (by omega),List.getElem?_set_ne (by omega)];exact e1
  ·rw[List.getElem?_set_ne (by omega),List.getElem?_set_ne (by omega)];exact e2
 ·obtain rfl:j=i:=by omega
  rw[hd] at he;cases he;refine⟨a,m,c,?_,?_,hr,hx⟩
  ·rw[List.getElem?_set_ne (by omega),List.getElem?_set_self (by omega)]
  ·rw[List.getElem?_set_self (by simp;omega)]
theorem FcI.done {w wr:World} {g n:Nat} {l:List AtomD} (h:FcI w wr g n l n) (hl:l.length=n) (hm:n≤1048576):RdAtomS wr (.slice (some ⟨g,0,none⟩) n n) l:=by
 obtain⟨cs,h1,h2⟩:=h;have hc:=h1.len;refine⟨_,_,_,rfl,_,_,_,rfl,hl,Nat.le_refl _,by unfold maxLen;omega,fun h0=>⟨g,0,rfl,h1.lt.2,fun j hj=>?_⟩⟩;obtain⟨a,m,c,e1,e2,e3,e4⟩:=h2 j l[j] (by omega) (List.getElem?_eq_getElem hj);refine⟨[.int .i64 l[j].1,.slice a m c],rfl,fun i hi=>?_,a,m,c,rfl,e3,e4.below h1.2⟩;rw[Nat.zero_add,h1.cell _ (by omega)];have:i=0∨i=1:=by omega
 rcases this with rfl|rfl
 ·exact e1
 ·exact e2
set_option maxRecDepth 100000 in
set_option maxHeartbeats 4000000 in
theorem iAtomFacts_any (w:World) (v:Value) (l:List AtomD) (h:RdAtomS w v l) (hz:l.length≤1048576) :
  Calls Tryz.prog 86 #[v] w (fun e w'=>∃r,e=.returned r∧RdAtomS w' r l∧Below w.heap.size w w'):=by
 obtain⟨a,n,c,rfl,ha⟩:=h;obtain⟨hl,hn,hm,hcell⟩:=ha.at
 have hnz:n≤1048576:=by omega
 unfold maxLen at hm;have HC:=Lib.hid hcell;have HL:=Lib.hid hl;clear ha hcell hl hz;go_enter Tryz.func86,Tryz.ntmps86
 go_wp2_with (at_make;refine wpList_make_C rfl (.tmp 7) (.tmp 7) 36 rfl 127 (.agg #[.int .i64 0,.slice none 0 0]) 2 32 Tryz.underlying36 info_Fact13 (by decide) (by decide) (Below.refl _ w) .i64 .i64 n rfl rfl (by omega) ?_)
 intro w1 hb1;have HB1:Hid (FcI w w1 w.heap.size n l 0):=⟨_,hb1,fun j d hj=>by omega⟩;obtain⟨g,hg⟩:∃g,g=w.heap.size:=⟨_,rfl⟩
 rw[←hg] at HB1;clear hb1;go_wp2_with fail
 rw[←hg];have HG:=Lib.hid hg;clear hg
 go_loopw [11] (fun iv wr=>∃i:Nat,i≤n∧iv=.int .i64 i∧FcI w wr g n l i) (fun iv _=>n-(intOf iv).toNat)
 case atStart=>exact⟨0,by omega,rfl,HB1.out⟩
 case round=>
  obtain⟨i,hi,rfl,hf⟩:=hrel;have HF:=Lib.hid hf;by_cases hlt:i<n
  ·obtain⟨b,off,rfl,hbw,hc⟩:=HC.out (by omega);obtain⟨d,hd⟩:∃d,l[i]?=some d:=⟨l[i]'(by rw[HL.out];exact hlt),List.getElem?_eq_getElem (by rw[HL.out];exact hlt)⟩
   obtain⟨ea,em,ec,c0,c1,hdi,hints⟩:=atomAt (n:=n) hc i d hd;obtain⟨cs,hbt,_⟩:=hf;have k0:=cellk hbt.2 c0;have k1:=cellk hbt.2 c1;have hlc:=hbt.len;obtain⟨W,hW⟩:∃x,x=wr.alloc (.cells #[.int .i64 d.1,.slice ea em ec] 83):=⟨_,rfl⟩
   have hbn:Below wr.heap.size wr W:=by rw[hW];exact below_alloc _ _
   obtain⟨u0,hu0⟩:∃u,cs[i*2]?=some u:=⟨cs[i*2]'(by omega),List.getElem?_eq_getElem _⟩
   obtain⟨u1,hu1⟩:∃u,cs[i*2+1]?=some u:=⟨cs[i*2+1]'(by omega),List.getElem?_eq_getElem _⟩
   have p0:W.cell? ⟨g,i*2,none⟩=some u0:=cellk hbn (by rw[hbt.cell _ (by omega)];exact hu0);have p1:W.cell? ⟨g,i*2+1,none⟩=some u1:=cellk hbn (by rw[hbt.cell _ (by omega)];exact hu1);have p2:W.frozen? ⟨g,i*2,none⟩=false:=(hbt.grow hbn).frozen _;have p3:W.frozen? ⟨g,i*2+1,none⟩=false:=(hbt.grow hbn).frozen _;have q0:W.cell? ⟨wr.heap.size,0,none⟩=some (.int .i64 d.1):=by rw[hW];simp
   have q1:W.cell? ⟨wr.heap.size,1,none⟩=some (.slice ea em ec):=by rw[hW];simp
   have HNEW:=Lib.hid (FcI.step HF.out hbn hlt hd hdi hints);have hi0:(0:Int)≤i:=by omega
   have hi1:(i:Int)<n:=by omega
   have HWW:=Lib.hid hW;clear hc hbw hd hdi hints hbt hlc hbn hW hu0 hu1 c0 c1;generalize d.1=r at *;go_upto_region 5 with fail
   rw[←HWW.out];clear HWW;go_wp2_with fail
   exact⟨⟨i+1,by omega,by simp,HNEW.out⟩,by simp[intOf];omega⟩
  ·obtain rfl:i=n:=by omega
   obtain⟨cs,hbt,_⟩:=hf;have hbl:=hbt.2;have HBL:=Lib.hid hbl;clear hbt hbl;go_wp2_with fail
   go_ret;exact⟨_,rfl,HF.out.done HL.out hnz,HBL.out⟩
theorem dif_eq {a b:List Int}:∀j,j<dif a b→a.getD j 0=b.getD j 0:=by
 induction a generalizing b with
 |nil=>intro j hj;unfold dif at hj;omega
 |cons x a ih=>
  cases b with
  |nil=>intro j hj;unfold dif at hj;omega
  |cons y b=>
   intro j hj;unfold dif at hj;by_cases h:x=y
   ·rw[if_pos h] at hj
    cases j with
    |zero=>simpa using h
    |succ j=>simpa using ih j (by omega)
   ·rw[if_neg h] at hj;omega
set_option maxRecDepth 100000 in
set_option maxHeartbeats 4000000 in
theorem iFirstDiff_any (w:World) (v1 v2:Value) (x y:AtomD) (h1:RdAtom w v1 x) (h2:RdAtom w v2 y) (hl:x.2.length=y.2.length) (hp:dif x.2 y.2<x.2.length) (hne:x.2.getD (dif x.2 y.2) 0≠y.2.getD (dif x.2 y.2) 0) :
  Calls Tryz.prog 88 #[v1,v2] w (GaveV (.tuple #[.int .i64 (x.2.getD (dif x.2 y.2) 0),.int .i64 (y.2.getD (dif x.2 y.2) 0)]) w):=by
 obtain⟨a1,n1,c1,rfl,_,hi1⟩:=h1;obtain⟨a2,n2,c2,rfl,_,hi2⟩:=h2;obtain⟨r1,hr1⟩:∃r,x.1=r:=⟨_,rfl⟩
 obtain⟨r2,hr2⟩:∃r,y.1=r:=⟨_,rfl⟩
 rw[hr1,hr2];clear hr1 hr2;obtain⟨l1,hl1⟩:∃l,x.2=l:=⟨_,rfl⟩
 obtain⟨l2,hl2⟩:∃l,y.2=l:=⟨_,rfl⟩
 rw[hl1] at hi1;rw[hl2] at hi2;rw[hl1,hl2] at hl hp hne ⊢;clear hl1 hl2;obtain⟨p,hpp⟩:∃p,dif l1 l2=p:=⟨_,rfl⟩
 have HDE:=Lib.hid (dif_eq (a:=l1) (b:=l2));have HDA:Hid (∀q,q<l1.length→(∀j,j<q→l1.getD j 0=l2.getD j 0)→l1.getD q 0≠l2.getD q 0→p=q):=fun q h1 h2 h3=>by rw[←hpp];exact dif_at h1 (by omega) h2 h3
 rw[hpp] at hp hne HDE ⊢;clear hpp
 obtain⟨_,b1,o1,hn1,hc1,rfl,hlt1,hz1,hcell1⟩:∃(_:True) (b off:Nat),l1.length=n1∧n1≤c1∧a1=some ⟨b,off,none⟩∧b<w.heap.size∧c1≤maxLen∧∀j,j<n1→w.cell? ⟨b,off+j,none⟩=some (.int .i64 (l1.getD j 0)):=by
  rcases hi1.2 with⟨a',cap,e,_,e2⟩|⟨b,off,len,cap,e,h3,h4,h5,h6,h7⟩
  ·rw[e2] at hp;simp at hp
  ·cases e;exact⟨trivial,b,off,h3,h4,rfl,h6,h5,h7⟩
 obtain⟨_,b2,o2,hn2,hc2,rfl,hlt2,hz2,hcell2⟩:∃(_:True) (b off:Nat),l2.length=n2∧n2≤c2∧a2=some ⟨b,off,none⟩∧b<w.heap.size∧c2≤maxLen∧∀j,j<n2→w.cell? ⟨b,off+j,none⟩=some (.int .i64 (l2.getD j 0)):=by
  rcases hi2.2 with⟨a',cap,e,_,e2⟩|⟨b,off,len,cap,e,h3,h4,h5,h6,h7⟩
  ·rw[e2] at hl;simp at hl;rw[hl] at hp;simp at hp
  ·cases e;exact⟨trivial,b,off,h3,h4,rfl,h6,h5,h7⟩
 obtain⟨W,hW⟩:∃x,x=(w.alloc (.cells #[.int .i64 r1,.slice (some ⟨b1,o1,none⟩) n1 c1] 83)).alloc (.cells #[.int .i64 r2,.slice (some ⟨b2,o2,none⟩) n2 c2] 83):=⟨_,rfl⟩
 have hbw:Below w.heap.size w W:=by rw[hW];exact ((Below.refl _ _).alloc (Nat.le_refl _) _).alloc (by simp) _
 obtain⟨q1,hq1⟩:∃x,x=w.heap.size:=⟨_,rfl⟩
 obtain⟨q2,hq2⟩:∃x,x=w.heap.size+1:=⟨_,rfl⟩
 have K:Hid (∀wr,Below W.heap.size W wr→wr.cell? ⟨q1,1,none⟩=some (.slice (some ⟨b1,o1,none⟩) n1 c1)∧wr.cell? ⟨q2,1,none⟩=some (.slice (some ⟨b2,o2,none⟩) n2 c2)∧(∀j,j<n1→wr.cell? ⟨b1,o1+j,none⟩=some (.int .i64 (l1.getD j 0)))∧∀j,j<n1→wr.cell? ⟨b2,o2+j,none⟩=some (.int .i64 (l2.getD j 0))):=fun wr hb=>
  ⟨cellk hb (by rw[hW,hq1];exact box1_2 _ _ _ _ _ _ rfl),cellk hb (by rw[hW,hq2];exact box2_2 _ _ _ _ _ _ rfl),fun j hj=>cellk (bnext hbw hb) (hcell1 j hj),fun j hj=>cellk (bnext hbw hb) (hcell2 j (by omega))⟩
 have HBW:=Lib.hid hbw;have HWW:=Lib.hid hW;have HQ1:=Lib.hid hq1;have HQ2:=Lib.hid hq2;have hnn:n1=n2:=by omega
 subst hnn;have hpn:p<n1:=by omega
 have hnm:n1≤9223372036854775807:=by unfold maxLen at hz1;omega
 obtain rfl:q2=q1+1:=by omega
 have HNE:=Lib.hid hne;have HN1:=Lib.hid hn1;clear hi1 hi2 hl hp hne hcell1 hcell2 hbw hW hq1 hq2 hn1 hn2 hlt1 hlt2 hz1 hz2;go_enter Tryz.func88,Tryz.ntmps88
 go_wp2_with fail
 rw[←HQ1.out,←HWW.out];clear HWW HQ1 HQ2
 go_loopw [6] (fun iv wr=>∃i:Nat,i≤p∧iv=.int .i64 i∧Below W.heap.size W wr) (fun iv _=>p-(intOf iv).toNat)
 case atStart=>exact⟨0,by omega,rfl,Below.refl _ _⟩
 case round=>
  obtain⟨i,hi,rfl,hb⟩:=hrel;obtain⟨k1,k2,k3,k4⟩:=K.out wr hb;have HB:=Lib.hid hb;have HK5:Hid (∀w',Below wr.heap.size wr w'→w'.cell? ⟨q1,1,none⟩=some (.slice (some ⟨b1,o1,none⟩) n1 c1)∧w'.cell? ⟨q1+1,1,none⟩=some (.slice (some ⟨b2,o2,none⟩) n1 c2)∧w'.cell? ⟨b1,o1+i,none⟩=some (.int .i64 (l1.getD i 0))∧w'.cell? ⟨b2,o2+i,none⟩=some (.int .i64 (l2.getD i 0))):=fun w' h=>⟨cellk h k1,cellk h k2,cellk h (k3 i (by omega)),cellk h (k4 i (by omega))⟩
  replace k1:=cell_regrown (w:=wr) k1;replace k2:=cell_regrown (w:=wr) k2;have c1':=cell_regrown (w:=wr) (k3 i (by omega));have c2':=cell_regrown (w:=wr) (k4 i (by omega));have hi0:(0:Int)≤i:=by omega
  have hi1:(i:Int)<n1:=by omega
  have HE1:Hid (i<p→l1.getD i 0=l2.getD i 0):=HDE.out i;have HE2:Hid (l1.getD i 0≠l2.getD i 0→i=p):=fun h=>(HDA.out i (by rw[HN1.out];omega) (fun j hj=>HDE.out j (by omega)) h).symm
  clear hb k3 k4;by_cases he:l1.getD i 0=l2.getD i 0
  ·have hip:i<p:=by
    rcases Nat.lt_or_ge i p with h|h
    ·exact h
    ·obtain rfl:i=p:=by omega
     exact absurd he HNE.out
   rw[←he] at c2';generalize l1.getD i 0=u at *;clear he;go_wp2_with fail
   refine wp_region_quiet_below (by kernel_rfl) (by kernel_rfl) ?_
   repeat (any_goals (first|go_big_quiet_step (fail)|quiet_step (fail)))
   refine wpQuiet_nil ?_;intro _ hw';obtain⟨⟨dq,osq⟩,hw''⟩:=hw';subst hw'';go_wp2_with fail
   exact⟨⟨i+1,by omega,by simp,bnext HB.out (below_regrown _ _ _)⟩,by simp[intOf];omega⟩
  ·obtain rfl:=HE2.out he;generalize l1.getD i 0=u at *;generalize l2.getD i 0=u' at *;have q:(u==u')=false:=beq_eq_false_iff_ne.2 he;clear he;go_wp2_with fail
   refine wp_region_quiet_below (by kernel_rfl) (by kernel_rfl) ?_
   repeat (any_goals (first|go_big_quiet_step (fail)|quiet_step (fail)))
   refine wpQuiet_nil ?_;intro _ hw';obtain⟨⟨dq,osq⟩,hw''⟩:=hw';subst hw'';have hbn:=below_regrown wr dq osq;obtain⟨wn,hwn⟩:∃x,x=grow (redrawn wr dq) osq:=⟨_,rfl⟩
   rw[←hwn] at hbn ⊢;clear hwn k1 k2 c1' c2';obtain⟨d1,d2,d3,d4⟩:=HK5.out wn hbn;replace d1:=cell_regrown (w:=wn) d1;replace d2:=cell_regrown (w:=wn) d2;replace d3:=cell_regrown (w:=wn) d3;replace d4:=cell_regrown (w:=wn) d4;have HBN:=Lib.hid (bnext HB.out hbn);clear hbn HK5;go_wp2_with fail
   refine wp_region_quiet_below (by kernel_rfl) (by kernel_rfl) ?_
   repeat (any_goals (first|go_big_quiet_step (fail)|quiet_step (fail)))
   refine wpQuiet_nil ?_;intro _ hw';obtain⟨⟨dq,osq⟩,hw''⟩:=hw';subst hw'';go_wp2_with fail
   exact bodyPost_ret (v:=.tuple #[.int .i64 u,.int .i64 u']) (by simp[results,Tryz.results88,go_sem]) rfl ⟨rfl,bnext HBW.out (bnext HBN.out (below_regrown _ _ _))⟩
def AkS (W:World) (s:List Int) (ks:List AtomD) (d q:QueryD) (B:Nat) (wr:World) (x y:Value):Prop:=
 ChS W ks d q B wr x y∧fineB s q 4=true∧wr.cell? ⟨B+1,0,none⟩=some (.slice none 0 0)∧wr.cell? ⟨B+1,1,none⟩=some (.slice none 0 0)∧wr.frozen? ⟨B+1,0,none⟩=false∧wr.frozen? ⟨B+1,1,none⟩=false
theorem AkS.below {W:World} {s:List Int} {ks:List AtomD} {d q:QueryD} {B:Nat} {wr w':World} {x y:Value} (h:AkS W s ks d q B wr x y) (hb:Below wr.heap.size wr w'):AkS W s ks d q B w' x y:=by
 obtain⟨h1,h2,h3,h4,h5,h6⟩:=h;exact⟨h1.below hb,h2,cellk hb h3,cellk hb h4,frok hb h3 h5,frok hb h4 h6⟩
theorem AkS.lay {W:World} {s:List Int} {ks:List AtomD} {d q q':QueryD} {B:Nat} {wr:World} {x y:Value} {a a':Option Addr} {n c n' c':Nat} (h:AkS W s ks d q B wr x y) (hB:W.heap.size≤B) (hr:RdQuery wr (.agg #[.slice a n c,.slice a' n' c']) q') (hm:chQ ks q'=chQ ks d) (hz:sizeQuery q'=sizeQuery d) (hf:fineB s q' 4=true) :
  AkS W s ks d q' B ((wr.setCell ⟨B,0,none⟩ (.slice a n c)).setCell ⟨B,1,none⟩ (.slice a' n' c')) (.slice a n c) (.slice a' n' c'):=by
 obtain⟨h1,h2,h3,h4,h5,h6⟩:=h;have hk:OnlyAt [B] wr ((wr.setCell ⟨B,0,none⟩ (.slice a n c)).setCell ⟨B,1,none⟩ (.slice a' n' c')):=(OnlyAt.setCell wr _ _ _).same (OnlyAt.setCell _ _ _ _);have hno:B+1∉[B]:=by simp
 exact⟨h1.lay hB hr hm hz,hf,hk.cell hno h3,hk.cell hno h4,by simpa using h5,by simpa using h6⟩
noncomputable def akM (W:World) (s:List Int) (ks:List AtomD) (d:QueryD) (B:Nat) (wr:World):Nat:=leastN (fun f=>∃(q:QueryD) (xa:Option Addr) (xn xc:Nat) (ya:Option Addr) (yn yc:Nat),AkS W s ks d q B wr (.slice xa xn xc) (.slice ya yn yc)∧muQ q=f)
theorem akM_spec {W:World} {s:List Int} {ks:List AtomD} {d:QueryD} {B:Nat} {wr:World} (h:∃(q:QueryD) (xa:Option Addr) (xn xc:Nat) (ya:Option Addr) (yn yc:Nat),AkS W s ks d q B wr (.slice xa xn xc) (.slice ya yn yc)):∃(q:QueryD) (xa:Option Addr) (xn xc:Nat) (ya:Option Addr) (yn yc:Nat),AkS W s ks d q B wr (.slice xa xn xc) (.slice ya yn yc)∧muQ q=akM W s ks d B wr:=by
 obtain⟨q,xa,xn,xc,ya,yn,yc,h⟩:=h;exact leastN_spec (P:=fun f=>∃(q:QueryD) (xa:Option Addr) (xn xc:Nat) (ya:Option Addr) (yn yc:Nat),AkS W s ks d q B wr (.slice xa xn xc) (.slice ya yn yc)∧muQ q=f) ⟨_,q,xa,xn,xc,ya,yn,yc,h,rfl⟩
theorem akM_le {W:World} {s:List Int} {ks:List AtomD} {d q:QueryD} {B:Nat} {wr:World} {xa:Option Addr} {xn xc:Nat} {ya:Option Addr} {yn yc:Nat} (h:AkS W s ks d q B wr (.slice xa xn xc) (.slice ya yn yc)):akM W s ks d B wr≤muQ q:=leastN_le ⟨q,xa,xn,xc,ya,yn,yc,h,rfl⟩
def AkJ (W:World) (s:List Int) (ks:List AtomD) (d:QueryD) (B:Nat) (va0:Option Addr) (vn0 vc0:Nat) (va:Option Addr) (vn vc:Nat) (ka:Option Addr) (kn kc:Nat) (a':Act) (wr:World):Prop:=
 ∃(u3 u6 u7 u8 u9 u10 u11 u12 u13 u14 u15 u16 u17 u18 u19 u20 u21 u22 u23 u24 u25 u26 u27 u28 u29 u30 u31 u32 u33 u34 u35 u36 u37 u38 u39 u40 u41 u42 u43 u44 u45 u46 u47 u48 u49 u50 u51 u52 u53:Value),a'={ tmps:=#[.agg #[.slice va0 vn0 vc0,.slice va vn vc],.slice ka kn kc,.pointer (some ⟨B,0,none⟩),u3,.pointer (some ⟨B+1,0,none⟩),.bool false,u6,u7,u8,u9,u10,u11,u12,u13,u14,u15,u16,u17,u18,u19,u20,u21,u22,u23,u24,u25,u26,u27,u28,u29,u30,u31,u32,u33,u34,u35,u36,u37,u38,u39,u40,u41,u42,u43,u44,u45,u46,u47,u48,u49,u50,u51,u52,u53],defers:=[] }∧∃(q:QueryD) (xa:Option Addr) (xn xc:Nat) (ya:Option Addr) (yn yc:Nat),AkS W s ks d q B wr (.slice xa xn xc) (.slice ya yn yc)
theorem wp_scope_label {P:Program} {Q:Exit→Act→World→Prop} {a0:Act} {w0:World} {body:Code} (l:Nat) (J:Act→World→Prop) (m:Act→World→Nat) (h0:J a0 w0) (pass:∀a w,J a w→body.wp P (Exit.jump l (fun a' w'=>J a' w'∧m a' w'<m a w) Q) a w):(Code.scope (.seq (.label l) body)).wp P Q a0 w0:=by
 refine wp_scope_jumps (rest:=.seq .skip body) l J m (by simp[findLabel]) ?_ (fun a w hJ=>wp_seq (wp_skip (pass a w hJ)));refine wp_seq (wp_label ?_);refine Code.wp_mono (fun e a w h=>?_) (pass _ _ h0)
 cases e<;>first|exact h|exact⟨h.1,h.2.1⟩
theorem termB13 {t:Int} (h:termB t=true):-80≤t∧t≤19:=by
 unfold termB varB conB at h;simp at h;omega
theorem zeroRO13 (w:World):ROQuery w (.agg #[.slice none 0 0,.slice none 0 0]) ([],[]) []:=⟨none,0,0,none,0,0,rfl,[],[],⟨Ints.nil w,.inl ⟨_,_,rfl,rfl⟩⟩,.inl ⟨_,_,rfl,Nat.zero_le _,rfl,rfl⟩,rfl⟩
def GaveQBO (w:World) (o:Option QueryD) (e:Ending) (w':World):Prop:=∃r bs,e=.returned (.tuple #[r,.bool o.isSome])∧ROQuery w' r (o.getD ([],[])) bs∧Fresh w w' bs∧Below w.heap.size w w'
set_option maxRecDepth 100000 in
set_option maxHeartbeats 8000000 in
theorem iApplyKeys_any (w:World) (v vk:Value) (s:List Int) (d:QueryD) (ks:List AtomD) (hE:EnvE w) (h:RdQuery w v d) (hks:RdAtomS w vk ks) (hz:sizeQuery d≤1048576) (hf:fineB s d 4=true) :
  Calls Tryz.prog 40 #[v,vk] w (GaveQBO w (chQ ks d)):=by
 have HFC:=Lib.hid (fun W x l (hx:RdAtomS W x l) (hl:l.length≤1048576)=>iAtomFacts_any W x l hx hl);have HFV:=Lib.hid (fun W x l (hb:Below w.heap.size w W) (hx:RdAtomS W x l)=>iFirstV_any W x vk l ks (hE.below hb) hx (RdAtomS.below hks hb));have HDF:=Lib.hid (fun W v1 v2 x y (h1:RdAtom W v1 x) (h2:RdAtom W v2 y) hl hp hne=>iFirstDiff_any W v1 v2 x y h1 h2 hl hp hne);have HRP:=Lib.hid (fun W x q t u (hx:RdQuery W x q) (hu:inI u) (hq:sizeQuery q=sizeQuery d)=>iReplace_any W x q t u hx hu (by omega));have HDD:=Lib.hid (fun W x q (hx:RdQuery W x q) (hq:sizeQuery q=sizeQuery d)=>iDedupe_any W x q hx (by omega));have HIV:=Lib.hid (fun w t=>iIsVar_any t w);have HZ:=Lib.hid hz;have HH:=Lib.hid h;have HFN:=Lib.hid hf;obtain⟨ka,kn,kc,rfl,hks⟩:=hks;obtain⟨va0,vn0,vc0,va,vn,vc,rfl,hi,ha⟩:=h;clear hks hi ha hE hz hf;go_enter Tryz.func40,Tryz.ntmps40
 obtain⟨B,hB⟩:∃B,B=w.heap.size:=⟨_,rfl⟩
 go_wp2_with fail
 refine wp_scope_label 0 (AkJ w s ks d B va0 vn0 vc0 va vn vc ka kn kc) (fun _ wr=>akM w s ks d B wr) ?first ?walk
 case first=>
  ·rw[←hB];refine⟨_,_,_,_,_,_,_,_,_,_,_,_,_,_,_,_,_,_,_,_,_,_,_,_,_,_,_,_,_,_,_,_,_,_,_,_,_,_,_,_,_,_,_,_,_,_,_,_,_,rfl,d,va0,vn0,vc0,va,vn,vc,?_⟩;obtain⟨W,hW⟩:∃W,W=(w.alloc (.cells #[.slice va0 vn0 vc0,.slice va vn vc] 29)).alloc (.cells #[.slice none 0 0,.slice none 0 0] 29):=⟨_,rfl⟩
   have hbw:Below w.heap.size w W:=by rw[hW];exact ((Below.refl _ _).alloc (Nat.le_refl _) _).alloc (by simp) _
   rw[←hW];refine⟨⟨?_,?_,?_,?_,HH.out.below hbw,?_,hbw,?_,rfl,rfl⟩,HFN.out,?_,?_,?_,?_⟩
   ·rw[hW,hB];exact box1_2 _ _ _ _ 0 _ rfl
   ·rw[hW,hB];exact box1_2 _ _ _ _ 1 _ rfl
   ·rw[hW,hB];simp
   ·rw[hW,hB];simp
   ·rw[hW,hB];have:=SlB.new w va0 va vn0 vc0 vn vc 29;exact this.below (by simp) (below_alloc _ _)
   ·rw[hW,hB];simp;omega
   ·rw[hW,hB];exact box2_2 _ _ _ _ 0 _ rfl
   ·rw[hW,hB];exact box2_2 _ _ _ _ 1 _ rfl
   ·rw[hW,hB];exact frz2_2 _ _ _ _ 0
   ·rw[hW,hB];exact frz2_2 _ _ _ _ 1
 case walk=>
  rintro a wr ⟨u3,u6,u7,u8,u9,u10,u11,u12,u13,u14,u15,u16,u17,u18,u19,u20,u21,u22,u23,u24,u25,u26,u27,u28,u29,u30,u31,u32,u33,u34,u35,u36,u37,u38,u39,u40,u41,u42,u43,u44,u45,u46,u47,u48,u49,u50,u51,u52,u53,rfl,hJ⟩;obtain⟨q,xa,xn,xc,ya,yn,yc,hA,hmu⟩:=akM_spec hJ;clear hJ;have HA:=Lib.hid hA;have HMU:=Lib.hid hmu;have HBB:=Lib.hid hB;obtain⟨⟨x0,x1,g0,g1,hx,hxs,hbw,hBl,hms,hqz⟩,hf,r0,r1,h0,h1⟩:=hA;have HX:=Lib.hid hx;have HBW:=Lib.hid hbw;have HQZ:=Lib.hid hqz;have HMS:=Lib.hid hms;have HF:=Lib.hid hf;obtain⟨_,_,_,_,_,_,e,hxi,hxa⟩:=hx
  cases e
  have hzz:sizeAtomS q.2≤1048576∧q.2.length≤1048576:=by
   have h1:=HZ.out;rw[←HQZ.out] at h1;unfold sizeQuery at h1;unfold sizeAtomS at h1 ⊢;omega
  have HBD:Hid (RdAtomS wr (.slice ya yn yc) q.2):=⟨_,_,_,rfl,hxa⟩;have HZZ:=Lib.hid hzz;clear hxs hbw hBl hms hqz hf hmu hxi hxa hzz hB;go_wp2_with fail
  refine (HFC.out wr _ q.2 HBD.out HZZ.out.2).mono ?_;rintro e w1 ⟨r,rfl,hr,hb⟩;obtain⟨ra,rn,rc,rfl,hrr⟩:=hr;have HR1:Hid (RdAtomS w1 (.slice ra rn rc) q.2):=⟨_,_,_,rfl,hrr⟩;have HA1:=Lib.hid (HA.out.below hb);have HB1:=Lib.hid hb;clear hrr hb;go_wp2_with fail
  refine (HFV.out w1 _ q.2 (bnext HBW.out HB1.out) HR1.out).mono ?_;rintro e w2 ⟨rfl,hb⟩;have HA2:=Lib.hid (HA1.out.below hb);have HB2:=Lib.hid (bnext HB1.out hb);have HFP:=fv_pv (fine_ar HF.out) ks;obtain⟨n0,hn0⟩:∃n,(fvN q.2 ks).1=n:=⟨_,rfl⟩
  rw[HFP.1,HFP.2,hn0];clear HFP hn0 hb HR1 HA1 HB1 x0 x1 g0 g1 r0 r1 h0 h1;obtain⟨⟨x0,x1,g0,g1,hx,hxs,hbw,hBl,hms,hqz⟩,hf,r0,r1,h0,h1⟩:=HA2.out;have HX2:=Lib.hid hx;have HBW2:=Lib.hid hbw;have HXS2:=Lib.hid hxs;clear hx hxs hbw hBl hms hqz hf;by_cases hpv:(pvN q.2 ks).1<0
  ·have HEND:Hid (chQ ks d=some (ddQ q)):=by rw[←HMS.out];exact chQ_end hpv
   have hpn:(pvN q.2 ks).1=-1∧(pvN q.2 ks).2.1=-1:=by
    rcases pvN_or q.2 ks with e|⟨i,j,x,y,e,_⟩
    ·rw[e];exact⟨rfl,rfl⟩
    ·rw[e] at hpv;simp at hpv;omega
   rw[hpn.1,hpn.2];clear hpn hpv;go_wp2_with fail
   refine (HDD.out w2 _ q HX2.out HQZ.out).mono ?_;rintro e w3 ⟨v3,bs,rfl,hro,hfr,hb⟩;obtain⟨za,zn,zc,ya',yn',yc',rfl,_⟩:=id hro;replace h0:=frok hb r0 h0;replace h1:=frok hb r1 h1;replace r0:=cellk hb r0;replace r1:=cellk hb r1;have HRO:=Lib.hid hro;have HFR:=Lib.hid hfr;have HB3:=Lib.hid (bnext HBW2.out hb);have HLT:Hid (B+1<w2.heap.size):=World.block_lt_of_cell? _ _ (show w2.cell? ⟨B+1,0,none⟩=some (.slice none 0 0) from HA2.out.2.2.1);clear hro hfr hb x0 x1 g0 g1;go_wp2_with fail
   have hk:OnlyAt [B+1] w3 ((w3.setCell ⟨B+1,0,none⟩ (.slice za zn zc)).setCell ⟨B+1,1,none⟩ (.slice ya' yn' yc')):=(OnlyAt.setCell w3 _ _ _).same (OnlyAt.setCell _ _ _ _);have hB:=HBB.out;refine bodyPost_ret (v:=.tuple #[.agg #[.slice za zn zc,.slice ya' yn' yc'],.bool true]) (by simp[results,Tryz.results40,go_sem,r0,r1]) rfl ⟨.agg #[.slice za zn zc,.slice ya' yn' yc'],bs,?_,?_,⟨HFR.out.1,fun y hy=>⟨?_,Nat.lt_of_lt_of_le (HFR.out.2 y hy).2 hk.size⟩⟩,OnlyAt.below HB3.out hk (fun y hy=>by simp at hy;omega)⟩
   ·rw[HEND.out];rfl
   ·rw[HEND.out];exact HRO.out.onlyAt hk (fun y hy hm=>by have:=(HFR.out.2 y hy).1;have:=HLT.out;simp at hm;omega)
   ·have:=(HFR.out.2 y hy).1;have:=HBW2.out.size;omega
  ·obtain⟨i,j,p,x,y,e1,hpd,hx,hy,ex,ey,hl,hp,hne,ht,hu⟩:=chase_round HF.out hpv;obtain⟨_,_,_,_,_,_,e,hxi,hxa⟩:=HX2.out
   cases e;obtain⟨hal,han,ham,hac⟩:=hxa.at
   have hil:i<yn:=by rw[←hal];exact (List.getElem?_eq_some_iff.1 hx).1
   have hjl:j<yn:=by rw[←hal];exact (List.getElem?_eq_some_iff.1 hy).1
   obtain⟨ab,ao,rfl,hablt,hcc⟩:=hac (by omega);obtain⟨ia,im,ic,i0,i1,hri,hii⟩:=atomAt (n:=yn) hcc i x hx;obtain⟨ja,jm,jc,j0,j1,hrj,hji⟩:=atomAt (n:=yn) hcc j y hy;have HRX:Hid (∀W,Below w2.heap.size w2 W→RdAtom W (.agg #[.int .i64 x.1,.slice ia im ic]) x):=fun W hb=>⟨_,_,_,rfl,hri,hii.below hb⟩
   have HRY:Hid (∀W,Below w2.heap.size w2 W→RdAtom W (.agg #[.int .i64 y.1,.slice ja jm jc]) y):=fun W hb=>⟨_,_,_,rfl,hrj,hji.below hb⟩
   have hcd:=Lib.hid (fun W hb=>HDF.out W _ _ x y (HRX.out W hb) (HRY.out W hb) hl (by rw[←hpd];exact hp) (by rw[←hpd];exact hne));rw[←hpd] at hcd;have HT:=Lib.hid ht;have HU:=Lib.hid hu;have hne':=hne;have HME:∀(t u:Int),x.2.getD p 0=t→y.2.getD p 0=u→Hid ((∃c∈q.2,t∈c.2)∧(∃c∈q.2,u∈c.2)):=fun t u h1 h2=>⟨⟨x,mem_at13 hx,by rw[←h1];exact mem_getD hp⟩,⟨y,mem_at13 hy,by rw[←h2];exact mem_getD (by omega)⟩⟩
   have HNO:Hid (eqOk (x.2.getD p 0) (y.2.getD p 0)=false→chQ ks d=none):=fun h=>by rw[←HMS.out];exact chQ_no e1 (by rw[ex]) (by rw[ey]) h
   have HGO:Hid (eqOk (x.2.getD p 0) (y.2.getD p 0)=true→chQ ks (eqQ q (x.2.getD p 0) (y.2.getD p 0))=chQ ks d∧muQ (eqQ q (x.2.getD p 0) (y.2.getD p 0))<muQ q):=fun h=>by
    have:=chQ_go e1 (t:=x.2.getD p 0) (u:=y.2.getD p 0) (by rw[ex]) (by rw[ey]) h;rw[HMS.out] at this;exact this
   obtain⟨t,htt⟩:∃t,x.2.getD p 0=t:=⟨_,rfl⟩
   obtain⟨u,huu⟩:∃u,y.2.getD p 0=u:=⟨_,rfl⟩
   have HMM:=HME t u htt huu;rw[htt] at HT hcd HNO HGO hne;rw[huu] at HU hcd HNO HGO hne;rw[e1];dsimp only;obtain⟨rx,hrx⟩:∃r,x.1=r:=⟨_,rfl⟩
   obtain⟨ry,hry⟩:∃r,y.1=r:=⟨_,rfl⟩
   rw[hrx] at i0 hcd;rw[hry] at j0 hcd;have HNE:=Lib.hid hne;have k1:=cell_regrown (w:=w2) x1;replace i0:=cell_regrown (w:=w2) i0;replace i1:=cell_regrown (w:=w2) i1;replace j0:=cell_regrown (w:=w2) j0;replace j1:=cell_regrown (w:=w2) j1;have hi0:(0:Int)≤i:=by omega
   have hi1:(i:Int)<yn:=by omega
   have hj0:(0:Int)≤j:=by omega
   have hj1:(j:Int)<yn:=by omega
   have hi2:¬(i:Int)<0:=by omega
   clear hpv e1 hpd hx hy ex ey hl hp hne hne' ht hu hxi hxa hal han ham hac hablt hcc hri hii hrj hji HME htt huu hrx hry hil hjl x0 x1 g0 g1 r0 r1 h0 h1;go_wp2_with fail
   refine wp_region_quiet_below (by kernel_rfl) (by kernel_rfl) ?_
   repeat (any_goals (first|go_big_quiet_step ((go_at_call 88;exact Calls.regrown_of (hcd.out _ (below_regrown _ _ _))))|quiet_step ((go_at_call 88;exact Calls.regrown_of (hcd.out _ (below_regrown _ _ _))))))
   refine wpQuiet_nil ?_;intro _ hw';obtain⟨⟨dq,osq⟩,hw''⟩:=hw';subst hw'';have HB3:=Lib.hid (below_regrown w2 dq osq);obtain⟨w3,hw3⟩:∃z,z=grow (redrawn w2 dq) osq:=⟨_,rfl⟩
   rw[←hw3] at HB3 ⊢;clear hw3 i0 i1 j0 j1 k1 hi0 hi1 hj0 hj1 hi2;have HA3:=Lib.hid (HA2.out.below HB3.out)
   have HIN:Hid (-80≤min t u∧max t u≤19):=by
    have h1:=termB13 HT.out;have h2:=termB13 HU.out;exact Lib.hid (by omega)
   have HMIN:Hid (termB (min t u)=true∧∃c∈q.2,min t u∈c.2):=by
    rcases Int.le_total t u with h3|h3
    ·rw[Int.min_eq_left h3];exact⟨HT.out,HMM.out.1⟩
    ·rw[Int.min_eq_right h3];exact⟨HU.out,HMM.out.2⟩
   obtain⟨⟨x0,x1,g0,g1,hx,hxs,hbw,hBl,hms,hqz⟩,hf,r0,r1,h0,h1⟩:=HA3.out;have HX3:=Lib.hid hx;have HBW3:=Lib.hid hbw;clear hx hxs hbw hBl hms hqz hf;by_cases hm:max t u<0
   ·have HV:Hid (varB (max t u)=false):=varB_no (.inl hm);have HEND:=Lib.hid (HNO.out (by rw[eqOk_ne HNE.out,decide_eq_true hm];rfl));clear hm x0 x1 g0 g1;go_wp2_with fail
    refine (HIV.out w3 (max t u)).mono ?_;rintro e w4 ⟨rfl,rfl⟩;rw[HV.out];go_wp2_with fail
    have hk:OnlyAt [B+1] w3 ((w3.setCell ⟨B+1,0,none⟩ (.slice none 0 0)).setCell ⟨B+1,1,none⟩ (.slice none 0 0)):=(OnlyAt.setCell w3 _ _ _).same (OnlyAt.setCell _ _ _ _);have hB:=HBB.out;refine bodyPost_ret (v:=.tuple #[.agg #[.slice none 0 0,.slice none 0 0],.bool false]) (by simp[results,Tryz.results40,go_sem,r0,r1]) rfl ⟨.agg #[.slice none 0 0,.slice none 0 0],[],?_,?_,⟨List.nodup_nil,fun y hy=>by cases hy⟩,OnlyAt.below HBW3.out hk (fun y hy=>by simp at hy;omega)⟩
    ·rw[HEND.out];rfl
    ·rw[HEND.out];exact zeroRO13 _
   ·have HV:Hid (varB (max t u)=true):=varB_yes (by omega) HIN.out.2;have HG:=Lib.hid (HGO.out (by rw[eqOk_ne HNE.out,decide_eq_false hm];rfl));rw[eqQ_ne HNE.out hm] at HG;have HFS:=Lib.hid (fine_swp (t:=max t u) HF.out HMIN.out.1 HMIN.out.2);clear hm r0 r1 h0 h1;go_wp2_with fail
    refine (HIV.out w3 (max t u)).mono ?_;rintro e w4 ⟨rfl,rfl⟩;rw[HV.out];go_wp2_with fail
    refine (HRP.out w3 _ q (max t u) (min t u) HX3.out (by have:=HIN.out;unfold inI;omega) HQZ.out).mono ?_;rintro e w4 ⟨v4,bs,rfl,hro,_,hb⟩;obtain⟨za,zn,zc,ya',yn',yc',rfl,_⟩:=id hro;replace g0:=frok hb x0 g0;replace g1:=frok hb x1 g1;replace x0:=cellk hb x0;replace x1:=cellk hb x1;have HRQ:=Lib.hid hro.rd;have HA4:=Lib.hid (HA3.out.below hb);clear hro hb;go_wp2_with fail
    go_step3
    have HN:=AkS.lay HA4.out (by rw[HBB.out];exact Nat.le_refl _) HRQ.out HG.out.1 (by rw[swpQ_size];exact HQZ.out) HFS.out;refine⟨rfl,⟨_,_,_,_,_,_,_,_,_,_,_,_,_,_,_,_,_,_,_,_,_,_,_,_,_,_,_,_,_,_,_,_,_,_,_,_,_,_,_,_,_,_,_,_,_,_,_,_,_,rfl,swpQ q (max t u) (min t u),za,zn,zc,ya',yn',yc',HN⟩,Nat.lt_of_le_of_lt (akM_le HN) (by rw[←HMU.out];exact HG.out.2)⟩
end Go.Proofs.YtpedpbbiamhgdaaGreatDoor
namespace Go.Proofs.YtpedpbbiamhgdaaGreatDoor
open Go Go.Sort Go.RowKit
set_option linter.unusedVariables false
set_option maxRecDepth 100000 in
set_option maxHeartbeats 4000000 in
theorem iChaseKeys_any (w:World) (vs v vk:Value) (s:List Int) (d:QueryD) (ks:List AtomD) (hE:EnvE w) (hvs:RdSchema w vs s) (h:RdQuery w v d) (hks:RdAtomS w vk ks) (hz:sizeQuery d≤1048576) :
  Calls Tryz.prog 16 #[vs,v,vk] w (GaveQBO w (ckR s d ks)):=by
 have hz2:sizeAtomS d.2≤1048576:=by unfold sizeQuery at hz;omega
 have HQ:=Lib.hid (fun W (hb:Below w.heap.size w W)=>iIsQuery_any W vs v s d (RdSchema.below hvs hb) (RdQuery.below h hb) hz2);have HK:=Lib.hid (fun W (hb:Below w.heap.size w W)=>iAreKeys_any W vs vk s ks (RdSchema.below hvs hb) (RdAtomS.below hks hb));have HC:=Lib.hid (fun W (hb:Below w.heap.size w W) (hf:fineB s d 4=true)=>iApplyKeys_any W v vk s d ks (hE.below hb) (RdQuery.below h hb) (RdAtomS.below hks hb) hz hf);obtain⟨R,hR⟩:∃R,R=ckR s d ks:=⟨_,rfl⟩
 rw[←hR];unfold ckR at hR;obtain⟨p1,hp1⟩:∃p,fineB s d 4=p:=⟨_,rfl⟩
 obtain⟨p2,hp2⟩:∃p,areKeysB s ks=p:=⟨_,rfl⟩
 rw[hp1,hp2] at hR;rw[hp1] at HQ;rw[hp2] at HK;have HRR:=Lib.hid hR;have HFI:=Lib.hid hp1;clear hR hp1 hp2 hE;obtain⟨sa,sn,sc,rfl,hs⟩:=hvs;obtain⟨ka,kn,kc,rfl,hks⟩:=hks;obtain⟨a0,h0,c0,a,n,c,rfl,hi,ha⟩:=h;have hb0:∀a b c,Below w.heap.size w (((w.alloc a).alloc b).alloc c):=fun a b c=>(((Below.refl _ _).alloc (Nat.le_refl _) _).alloc (by simp) _).alloc (by simp;omega) _
 have HB0:=Lib.hid hb0;clear hs hi ha hks hb0 hz hz2;go_enter Tryz.func16,Tryz.ntmps16
 go_wp2_with fail
 obtain⟨W,hW⟩:∃W,W=((w.alloc (.cells #[.slice sa sn sc] 26)).alloc (.cells #[.slice a0 h0 c0,.slice a n c] 29)).alloc (.cells #[.slice none 0 0,.slice none 0 0] 29):=⟨_,rfl⟩
 have HBW:Hid (Below w.heap.size w W):=by rw[hW];exact HB0.out _ _ _
 have q0:W.cell? ⟨w.heap.size,0,none⟩=some (.slice sa sn sc):=by rw[hW];exact box1 w _ _ _ _ 0 _ rfl
 have q1:W.cell? ⟨w.heap.size+1,0,none⟩=some (.slice a0 h0 c0):=by rw[hW];exact box2 w _ _ _ _ 0 _ rfl
 have q2:W.cell? ⟨w.heap.size+1,1,none⟩=some (.slice a n c):=by rw[hW];exact box2 w _ _ _ _ 1 _ rfl
 have k0:W.cell? ⟨w.heap.size+1+1,0,none⟩=some (.slice none 0 0):=by rw[hW];exact box3 w _ _ _ _ 0 _ rfl
 have k1:W.cell? ⟨w.heap.size+1+1,1,none⟩=some (.slice none 0 0):=by rw[hW];exact box3 w _ _ _ _ 1 _ rfl
 have f0:W.frozen? ⟨w.heap.size+1+1,0,none⟩=false:=by rw[hW];exact frz3 w _ _ _ _ 0
 have f1:W.frozen? ⟨w.heap.size+1+1,1,none⟩=false:=by rw[hW];exact frz3 w _ _ _ _ 1
 have hsl:SlB W (w.heap.size+1+1):=by
  rw[hW];have:=SlB.new ((w.alloc (.cells #[.slice sa sn sc] 26)).alloc (.cells #[.slice a0 h0 c0,.slice a n c] 29)) none none 0 0 0 0 29;simpa using this
 have HSZ:Hid (W.heap.size=w.heap.size+3):=by rw[hW];exact Lib.hid (by simp)
 have HSL:=Lib.hid hsl;rw[←hW];clear hW hsl;have HBN:=HBW;replace HSZ:Hid (w.heap.size+3≤W.heap.size):=Lib.hid (by have:=HSZ.out;omega);refine (HQ.out _ HBW.out).mono ?_;rintro e w1 ⟨rfl,hbb⟩;replace HSL:=Lib.hid (HSL.out.below (by have:=HBN.out.size;have:=HSZ.out;omega) hbb);replace f0:=frok hbb k0 f0;replace f1:=frok hbb k1 f1;replace q0:=cellk hbb q0;replace q1:=cellk hbb q1;replace q2:=cellk hbb q2;replace k0:=cellk hbb k0;replace k1:=cellk hbb k1;replace HSZ:=Lib.hid (Nat.le_trans HSZ.out hbb.size);replace HBN:=Lib.hid (bnext HBN.out hbb);clear hbb
 cases p1 with
 |false=>
  have HNO:Hid (R=none):=HRR.out.trans (by simp);go_wp2_with fail
  have hk:OnlyAt [w.heap.size+1+1] w1 ((w1.setCell ⟨w.heap.size+1+1,0,none⟩ (.slice none 0 0)).setCell ⟨w.heap.size+1+1,1,none⟩ (.slice none 0 0)):=(OnlyAt.setCell w1 _ _ _).same (OnlyAt.setCell _ _ _ _);exact bodyPost_ret (v:=.tuple #[.agg #[.slice none 0 0,.slice none 0 0],.bool false]) (by simp[results,Tryz.results16,go_sem,k0,k1]) rfl ⟨.agg #[.slice none 0 0,.slice none 0 0],[],by rw[HNO.out];rfl,by rw[HNO.out];exact zeroRO13 _,⟨List.nodup_nil,fun y hy=>by cases hy⟩,OnlyAt.below HBN.out hk (fun x hx=>by simp at hx;omega)⟩
 |true=>
  go_wp2_with fail
  refine (HK.out _ HBN.out).mono ?_;rintro e w2 ⟨rfl,hbb⟩;replace HSL:=Lib.hid (HSL.out.below (by have:=HBN.out.size;have:=HSZ.out;omega) hbb);replace f0:=frok hbb k0 f0;replace f1:=frok hbb k1 f1;replace q0:=cellk hbb q0;replace q1:=cellk hbb q1;replace q2:=cellk hbb q2;replace k0:=cellk hbb k0;replace k1:=cellk hbb k1;replace HSZ:=Lib.hid (Nat.le_trans HSZ.out hbb.size);replace HBN:=Lib.hid (bnext HBN.out hbb);clear hbb
  cases p2 with
  |false=>
   have HNO:Hid (R=none):=HRR.out.trans (by simp);go_wp2_with fail
   have hk:OnlyAt [w.heap.size+1+1] w2 ((w2.setCell ⟨w.heap.size+1+1,0,none⟩ (.slice none 0 0)).setCell ⟨w.heap.size+1+1,1,none⟩ (.slice none 0 0)):=(OnlyAt.setCell w2 _ _ _).same (OnlyAt.setCell _ _ _ _);exact bodyPost_ret (v:=.tuple #[.agg #[.slice none 0 0,.slice none 0 0],.bool false]) (by simp[results,Tryz.results16,go_sem,k0,k1]) rfl ⟨.agg #[.slice none 0 0,.slice none 0 0],[],by rw[HNO.out];rfl,by rw[HNO.out];exact zeroRO13 _,⟨List.nodup_nil,fun y hy=>by cases hy⟩,OnlyAt.below HBN.out hk (fun x hx=>by simp at hx;omega)⟩
  |true=>
   have HYES:Hid (R=chQ ks d):=HRR.out.trans (by simp);rw[←HYES.out] at HC;go_wp2_with fail
   refine (HC.out _ HBN.out HFI.out).mono ?_;rintro e w3 ⟨r3,bs,rfl,hro,hfr,hbb⟩;obtain⟨ra,rn,rc,ra',rn',rc',rfl,_⟩:=id hro;have HRO:=Lib.hid hro;have HFR:=Lib.hid hfr;have HS2:Hid (w.heap.size+3≤w2.heap.size):=HSZ;replace f0:=frok hbb k0 f0;replace f1:=frok hbb k1 f1;replace q0:=cellk hbb q0;replace q1:=cellk hbb q1;replace q2:=cellk hbb q2;replace k0:=cellk hbb k0;replace k1:=cellk hbb k1;replace HBN:=Lib.hid (bnext HBN.out hbb);clear hbb hro hfr;go_wp2_with fail
   have hk:OnlyAt [w.heap.size+1+1] w3 ((w3.setCell ⟨w.heap.size+1+1,0,none⟩ (.slice ra rn rc)).setCell ⟨w.heap.size+1+1,1,none⟩ (.slice ra' rn' rc')):=(OnlyAt.setCell w3 _ _ _).same (OnlyAt.setCell _ _ _ _);exact bodyPost_ret (v:=.tuple #[.agg #[.slice ra rn rc,.slice ra' rn' rc'],.bool R.isSome]) (by simp[results,Tryz.results16,go_sem,k0,k1]) rfl ⟨.agg #[.slice ra rn rc,.slice ra' rn' rc'],bs,rfl,HRO.out.onlyAt hk (fun y hy hm=>by have:=(HFR.out.2 y hy).1;have:=HS2.out;simp at hm;omega),⟨HFR.out.1,fun y hy=>⟨by have:=(HFR.out.2 y hy).1;have:=HS2.out;omega,Nat.lt_of_lt_of_le (HFR.out.2 y hy).2 hk.size⟩⟩,OnlyAt.below HBN.out hk (fun x hx=>by simp at hx;omega)⟩
set_option maxRecDepth 100000 in
set_option maxHeartbeats 4000000 in
theorem iContUnder_any (w:World) (vs va vb vk:Value) (s:List Int) (da db:QueryD) (ks:List AtomD) (hE:EnvE w) (hvs:RdSchema w vs s) (ha:RdQuery w va da) (hb:RdQuery w vb db) (hks:RdAtomS w vk ks) (hz1:sizeQuery da≤1048576) (hz2:sizeQuery db≤1048576) :
  Calls Tryz.prog 9 #[vs,va,vb,vk] w (GaveBool w (cuB s da db ks)):=by
 have HQ1:=Lib.hid (fun W (h:Below w.heap.size w W)=>iIsQuery_any W vs va s da (RdSchema.below hvs h) (RdQuery.below ha h) (by unfold sizeQuery at hz1;omega));have HQ2:=Lib.hid (fun W (h:Below w.heap.size w W)=>iIsQuery_any W vs vb s db (RdSchema.below hvs h) (RdQuery.below hb h) (by unfold sizeQuery at hz2;omega));have HK:=Lib.hid (fun W (h:Below w.heap.size w W)=>iAreKeys_any W vs vk s ks (RdSchema.below hvs h) (RdAtomS.below hks h));have HC:=Lib.hid (fun W (h:Below w.heap.size w W) (hf:fineB s da 4=true)=>iApplyKeys_any W va vk s da ks (hE.below h) (RdQuery.below ha h) (RdAtomS.below hks h) hz1 hf);have HF:=Lib.hid (fun W x q (h:Below w.heap.size w W) (hx:RdQuery W x q) (hq:sizeQuery q≤sizeQuery da)=>iContained_any W vs x vb s q db (RdSchema.below hvs h) hx (RdQuery.below hb h) (by unfold sizeQuery at hq hz1;omega) (by unfold sizeQuery at hz2;omega));have HXF:Hid (∀x,chQ ks da=some x→fineB s da 4=true→fineB s db 4=true→sizeQuery x≤sizeQuery da∧conB8 s x db=(findN db x).isSome):=fun x e h1 h2=>⟨(chQ_fine h1 e).2.2,by unfold conB8 fmN;rw[if_pos (by rw[h2,(chQ_fine h1 e).1];rfl)]⟩
 obtain⟨R,hR⟩:∃R,cuB s da db ks=R:=⟨_,rfl⟩
 rw[hR];unfold cuB at hR;obtain⟨p1,hp1⟩:∃p,fineB s da 4=p:=⟨_,rfl⟩
 obtain⟨p2,hp2⟩:∃p,fineB s db 4=p:=⟨_,rfl⟩
 obtain⟨p3,hp3⟩:∃p,areKeysB s ks=p:=⟨_,rfl⟩
 obtain⟨r,hr⟩:∃r,chQ ks da=r:=⟨_,rfl⟩
 rw[hp1,hp2,hp3,hr] at hR;rw[hp1,hp2,hr] at HXF;have HFI:=Lib.hid hp1;rw[hp1] at HQ1;rw[hp2] at HQ2;rw[hp3] at HK;rw[hr] at HC;obtain⟨sa,sn,sc,rfl,hs⟩:=hvs;obtain⟨ka,kn,kc,rfl,hks⟩:=hks;obtain⟨a0,h0,c0,a,n,c,rfl,hi,ha⟩:=ha;obtain⟨b0,g0,d0,b,m,k,rfl,hj,hb⟩:=hb;have hl1:da.1.length=h0:=by obtain⟨_,_,_,e,hl,_⟩:=hi.cases;cases e;exact hl
 have hl2:db.1.length=g0:=by obtain⟨_,_,_,e,hl,_⟩:=hj.cases;cases e;exact hl
 have hb0:∀a b c,Below w.heap.size w (((w.alloc a).alloc b).alloc c):=fun a b c=>(((Below.refl _ _).alloc (Nat.le_refl _) _).alloc (by simp) _).alloc (by simp;omega) _
 have HB0:=Lib.hid hb0;rw[hl1,hl2] at hR;have HBB:=Lib.hid hR.symm;clear hs hi ha hj hb hks hb0 hz1 hz2 hE hp1 hp2 hp3 hr hR hl1 hl2;go_enter Tryz.func9,Tryz.ntmps9
 go_wp2_with fail
 obtain⟨W,hW⟩:∃W,W=((w.alloc (.cells #[.slice sa sn sc] 26)).alloc (.cells #[.slice a0 h0 c0,.slice a n c] 29)).alloc (.cells #[.slice b0 g0 d0,.slice b m k] 29):=⟨_,rfl⟩
 have HBW:Hid (Below w.heap.size w W):=by rw[hW];exact HB0.out _ _ _
 have q0:W.cell? ⟨w.heap.size,0,none⟩=some (.slice sa sn sc):=by rw[hW];exact box1 w _ _ _ _ 0 _ rfl
 have q1:W.cell? ⟨w.heap.size+1,0,none⟩=some (.slice a0 h0 c0):=by rw[hW];exact box2 w _ _ _ _ 0 _ rfl
 have q2:W.cell? ⟨w.heap.size+1,1,none⟩=some (.slice a n c):=by rw[hW];exact box2 w _ _ _ _ 1 _ rfl
 have q3:W.cell? ⟨w.heap.size+1+1,0,none⟩=some (.slice b0 g0 d0):=by rw[hW];exact box3 w _ _ _ _ 0 _ rfl
 have q4:W.cell? ⟨w.heap.size+1+1,1,none⟩=some (.slice b m k):=by rw[hW];exact box3 w _ _ _ _ 1 _ rfl
 rw[←hW];clear hW;have HBN:=HBW;refine (HQ1.out _ HBW.out).mono ?_;rintro e w1 ⟨rfl,hbb⟩;replace q0:=cellk hbb q0;replace q1:=cellk hbb q1;replace q2:=cellk hbb q2;replace q3:=cellk hbb q3;replace q4:=cellk hbb q4;replace HBN:=Lib.hid (bnext HBN.out hbb);clear hbb
 cases p1 with
 |false=>
  go_wp2_with fail
  go_ret;exact⟨ret_b (HBB.out.trans (by first|rfl|simp)).symm,HBN.out⟩
 |true=>
  go_wp2_with fail
  refine (HQ2.out _ HBN.out).mono ?_;rintro e w2 ⟨rfl,hbb⟩;replace q0:=cellk hbb q0;replace q1:=cellk hbb q1;replace q2:=cellk hbb q2;replace q3:=cellk hbb q3;replace q4:=cellk hbb q4;replace HBN:=Lib.hid (bnext HBN.out hbb);clear hbb
  cases p2 with
  |false=>
   go_wp2_with fail
   go_ret;exact⟨ret_b (HBB.out.trans (by first|rfl|simp)).symm,HBN.out⟩
  |true=>
   go_wp2_with fail
   refine (HK.out _ HBN.out).mono ?_;rintro e w3 ⟨rfl,hbb⟩;replace q0:=cellk hbb q0;replace q1:=cellk hbb q1;replace q2:=cellk hbb q2;replace q3:=cellk hbb q3;replace q4:=cellk hbb q4;replace HBN:=Lib.hid (bnext HBN.out hbb);clear hbb
   cases p3 with
   |false=>
    go_wp2_with fail
    go_ret;exact⟨ret_b (HBB.out.trans (by first|rfl|simp)).symm,HBN.out⟩
   |true=>
    by_cases hlen:h0=g0
    ·subst hlen;go_wp2_with fail
     refine (HC.out _ HBN.out HFI.out).mono ?_;rintro e w4 ⟨r4,bs,rfl,hro,_,hbc⟩;obtain⟨ra,rn,rc,ra',rn',rc',rfl,_⟩:=id hro;have hr:=hro.rd;have hbb:=bnext hbc (below_alloc w4 (.cells #[.slice ra rn rc,.slice ra' rn' rc'] 29));have HX:=Lib.hid (hr.below (below_alloc w4 (.cells #[.slice ra rn rc,.slice ra' rn' rc'] 29)));replace q0:=cellk hbb q0;replace q1:=cellk hbb q1;replace q2:=cellk hbb q2;replace q3:=cellk hbb q3;replace q4:=cellk hbb q4;replace HBN:=Lib.hid (bnext HBN.out hbb);clear hbb;clear hbc hr hro
     cases r with
     |none=>
      simp only[Option.isSome_none,Option.getD_none] at HX ⊢;go_wp2_with fail
      go_ret;exact⟨ret_b (HBB.out.trans (by first|rfl|simp)).symm,HBN.out⟩
     |some x=>
      simp only[Option.isSome_some,Option.getD_some] at HX ⊢;obtain⟨hxz,hxc⟩:=HXF.out x (by simp) (by trivial) (by trivial);have HXZ:=Lib.hid hxz;have HXC:=Lib.hid hxc;clear hxz hxc HXF;go_wp2_with fail
      refine (HF.out _ _ _ HBN.out HX.out HXZ.out).mono ?_;rintro e w5 ⟨rfl,hbb⟩;replace HBN:=Lib.hid (bnext HBN.out hbb);clear hbb;rw[HXC.out];go_wp2_with fail
      go_ret;exact⟨ret_b (HBB.out.trans (by simp)).symm,HBN.out⟩
    ·have q:((h0:Int) != g0)=true:=bne_iff_ne.2 (by omega);have hf:decide (h0=g0)=false:=decide_eq_false hlen;rw[hf] at HBB;clear hlen hf;go_wp2_with fail
     go_ret;exact⟨ret_b (HBB.out.trans (by first|rfl|simp)).symm,HBN.out⟩
set_option maxRecDepth 100000 in
set_option maxHeartbeats 4000000 in
theorem iEquivUnder_any (w:World) (vs va vb vk:Value) (s:List Int) (da db:QueryD) (ks:List AtomD) (hE:EnvE w) (hvs:RdSchema w vs s) (ha:RdQuery w va da) (hb:RdQuery w vb db) (hks:RdAtomS w vk ks) (hz1:sizeQuery da≤1048576) (hz2:sizeQuery db≤1048576) :
  Calls Tryz.prog 11 #[vs,va,vb,vk] w (GaveBool w (cuB s da db ks&&cuB s db da ks)):=by
 have HC1:=Lib.hid (fun W (h:Below w.heap.size w W)=>iContUnder_any W vs va vb vk s da db ks (hE.below h) (RdSchema.below hvs h) (RdQuery.below ha h) (RdQuery.below hb h) (RdAtomS.below hks h) hz1 hz2);have HC2:=Lib.hid (fun W (h:Below w.heap.size w W)=>iContUnder_any W vs vb va vk s db da ks (hE.below h) (RdSchema.below hvs h) (RdQuery.below hb h) (RdQuery.below ha h) (RdAtomS.below hks h) hz2 hz1);obtain⟨p1,hp1⟩:∃p,cuB s da db ks=p:=⟨_,rfl⟩
 obtain⟨p2,hp2⟩:∃p,cuB s db da ks=p:=⟨_,rfl⟩
 rw[hp1,hp2];rw[hp1] at HC1;rw[hp2] at HC2;obtain⟨sa,sn,sc,rfl,hs⟩:=hvs;obtain⟨ka,kn,kc,rfl,hks⟩:=hks;obtain⟨a0,h0,c0,a,n,c,rfl,hi,ha⟩:=ha;obtain⟨b0,g0,d0,b,m,k,rfl,hj,hb⟩:=hb;clear hp1 hp2 hz1 hz2 hE;have hl1:da.1.length=h0:=by obtain⟨_,_,_,e,hl,_⟩:=hi.cases;cases e;exact hl
 have hl2:db.1.length=g0:=by obtain⟨_,_,_,e,hl,_⟩:=hj.cases;cases e;exact hl
 have hb0:∀a b c,Below w.heap.size w (((w.alloc a).alloc b).alloc c):=fun a b c=>(((Below.refl _ _).alloc (Nat.le_refl _) _).alloc (by simp) _).alloc (by simp;omega) _
 have HB0:=Lib.hid hb0;clear hs hi ha hj hb hks hb0 hl1 hl2;go_enter Tryz.func11,Tryz.ntmps11
 go_wp2_with fail
 obtain⟨W,hW⟩:∃W,W=((w.alloc (.cells #[.slice sa sn sc] 26)).alloc (.cells #[.slice a0 h0 c0,.slice a n c] 29)).alloc (.cells #[.slice b0 g0 d0,.slice b m k] 29):=⟨_,rfl⟩
 have HBW:Hid (Below w.heap.size w W):=by rw[hW];exact HB0.out _ _ _
 have q0:W.cell? ⟨w.heap.size,0,none⟩=some (.slice sa sn sc):=by rw[hW];exact box1 w _ _ _ _ 0 _ rfl
 have q1:W.cell? ⟨w.heap.size+1,0,none⟩=some (.slice a0 h0 c0):=by rw[hW];exact box2 w _ _ _ _ 0 _ rfl
 have q2:W.cell? ⟨w.heap.size+1,1,none⟩=some (.slice a n c):=by rw[hW];exact box2 w _ _ _ _ 1 _ rfl
 have q3:W.cell? ⟨w.heap.size+1+1,0,none⟩=some (.slice b0 g0 d0):=by rw[hW];exact box3 w _ _ _ _ 0 _ rfl
 have q4:W.cell? ⟨w.heap.size+1+1,1,none⟩=some (.slice b m k):=by rw[hW];exact box3 w _ _ _ _ 1 _ rfl
 rw[←hW];clear hW;have HBN:=HBW;refine (HC1.out _ HBW.out).mono ?_;rintro e w1 ⟨rfl,hbb⟩;replace q0:=cellk hbb q0;replace q1:=cellk hbb q1;replace q2:=cellk hbb q2;replace q3:=cellk hbb q3;replace q4:=cellk hbb q4;replace HBN:=Lib.hid (bnext HBN.out hbb);clear hbb
 cases p1 with
 |false=>
  go_wp2_with fail
  go_ret;exact⟨ret_b rfl,HBN.out⟩
 |true=>
  go_wp2_with fail
  refine (HC2.out _ HBN.out).mono ?_;rintro e w2 ⟨rfl,hbb⟩;replace q0:=cellk hbb q0;replace q1:=cellk hbb q1;replace q2:=cellk hbb q2;replace q3:=cellk hbb q3;replace q4:=cellk hbb q4;replace HBN:=Lib.hid (bnext HBN.out hbb);clear hbb;go_wp2_with fail
  go_ret;exact⟨ret_b (by simp),HBN.out⟩
end Go.Proofs.YtpedpbbiamhgdaaGreatDoor
