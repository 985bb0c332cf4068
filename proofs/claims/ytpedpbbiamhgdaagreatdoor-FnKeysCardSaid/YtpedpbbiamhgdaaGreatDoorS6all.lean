import Derived.Test.YtpedpbbiamhgdaaGreatDoorIntAll
import Derived.Test.YtpedpbbiamhgdaaGreatDoorSatom
import Derived.Test.YtpedpbbiamhgdaaGreatDoorBase
import Derived.Test.YtpedpbbiamhgdaaGreatDoorSquery
import Derived.Deep.RegionLaw
import Derived.Test.YtpedpbbiamhgdaaGreatDoorAtomK
import Derived.Test.YtpedpbbiamhgdaaGreatDoorS5all
import Derived.Test.YtpedpbbiamhgdaaGreatDoorSfineV
namespace Go.Proofs.YtpedpbbiamhgdaaGreatDoor
open Go.RowKit
set_option linter.unusedVariables false
def posK (x:List Int) (out:List (List Int)):Nat→Nat
 |0=>0
 |k+1=>if lessB x (out.getD k []) then posK x out k else k+1
theorem posK_le (x:List Int) (out:List (List Int)) (k:Nat):posK x out k≤k:=by
 induction k with
 |zero=>exact Nat.le_refl _
 |succ k ih=>unfold posK;split<;>omega
theorem posK_down {x:List Int} {out:List (List Int)} {m:Nat}:∀k,posK x out m<k→k≤m→lessB x (out.getD (k-1) [])=true:=by
 induction m with
 |zero=>intro k h1 h2;omega
 |succ m ih=>
  intro k h1 h2;unfold posK at h1
  split at h1
  ·rename_i hl
   rcases Nat.lt_or_ge k (m+1) with h|h
   ·exact ih k h1 (by omega)
   ·obtain rfl:k=m+1:=by omega
    exact hl
  ·omega
theorem posK_stop {x:List Int} {out:List (List Int)} {m:Nat} (h:0<posK x out m):lessB x (out.getD (posK x out m-1) [])=false:=by
 induction m with
 |zero=>simp[posK] at h
 |succ m ih=>
  unfold posK at h ⊢
  split
  ·rename_i hl
   rw[if_pos hl] at h;exact ih h
  ·rename_i hl
   simpa using hl
def insAt {α:Type} (k:Nat) (x:α) (l:List α):List α:=l.take k++(x::l.drop k)
def sortStep (once:Bool) (out:List (List Int)) (x:List Int):List (List Int):=
 if once&&(decide (0<posK x out out.length)&&decide (out.getD (posK x out out.length-1) []=x)) then out else insAt (posK x out out.length) x out
def sortTo (l:List (List Int)) (once:Bool) (i:Nat):List (List Int):=(l.take i).foldl (sortStep once) []
def sortL (l:List (List Int)) (once:Bool):List (List Int):=l.foldl (sortStep once) []
theorem sortTo_next {l:List (List Int)} {once:Bool} {i:Nat} {x:List Int} (h:l[i]?=some x):sortTo l once (i+1)=sortStep once (sortTo l once i) x:=by
 obtain⟨hi,rfl⟩:=List.getElem?_eq_some_iff.1 h;unfold sortTo;rw[List.take_succ_eq_append_getElem hi,List.foldl_append];rfl
theorem insAt_len {α:Type} (k:Nat) (x:α) (l:List α):(insAt k x l).length=l.length+1:=by unfold insAt;simp;omega
theorem sortStep_len (once:Bool) (out:List (List Int)) (x:List Int):(sortStep once out x).length≤out.length+1:=by
 unfold sortStep;split
 ·omega
 ·rw[insAt_len];exact Nat.le_refl _
theorem sortTo_len (l:List (List Int)) (once:Bool) (i:Nat):(sortTo l once i).length≤i:=by
 have key:∀(m out:List (List Int)),(m.foldl (sortStep once) out).length≤out.length+m.length:=by
  intro m
  induction m with
  |nil=>intro out;simp
  |cons x m ih=>
   intro out;have h1:=ih (sortStep once out x);have h2:=sortStep_len once out x;rw[List.foldl_cons];simp;omega
 have:=key (l.take i) [];have h2:(l.take i).length≤i:=List.length_take_le _ _;unfold sortTo;simp at this;omega
theorem sortTo_all (l:List (List Int)) (once:Bool):sortTo l once l.length=sortL l once:=by unfold sortTo sortL;rw[List.take_length]
theorem insAt_mem {α:Type} {k:Nat} {x y:α} {l:List α} (h:y∈insAt k x l):y=x∨y∈l:=by
 unfold insAt at h;rcases List.mem_append.1 h with h|h
 ·exact .inr (List.mem_of_mem_take h)
 ·rcases List.mem_cons.1 h with h|h
  ·exact .inl h
  ·exact .inr (List.mem_of_mem_drop h)
theorem sortL_mem {l:List (List Int)} {once:Bool}:∀y∈sortL l once,y∈l:=by
 unfold sortL
 have key:∀(m out:List (List Int)),(∀y∈out,y∈l)→(∀y∈m,y∈l)→∀y∈m.foldl (sortStep once) out,y∈l:=by
  intro m
  induction m with
  |nil=>intro out h _;exact h
  |cons x m ih=>
   intro out h hm;rw[List.foldl_cons];refine ih _ (fun y hy=>?_) (fun y hy=>hm y (by simp[hy]));unfold sortStep at hy
   split at hy
   ·exact h y hy
   ·rcases insAt_mem hy with rfl|hy
    ·exact hm y (by simp)
    ·exact h y hy
 exact key l [] (fun y hy=>by simp at hy) (fun y hy=>hy)
theorem insAt_get_lt {α:Type} {k:Nat} {x:α} {l:List α} {t:Nat} (h:t<k) (hk:k≤l.length):(insAt k x l)[t]?=l[t]?:=by
 unfold insAt;rw[List.getElem?_append_left (by simp;omega),List.getElem?_take,if_pos h]
theorem insAt_get_eq {α:Type} {k:Nat} {x:α} {l:List α} (hk:k≤l.length):(insAt k x l)[k]?=some x:=by
 unfold insAt;rw[List.getElem?_append_right (by rw[List.length_take];omega)];have:k-(l.take k).length=0:=by simp;omega
 rw[this];rfl
theorem insAt_get_gt {α:Type} {k:Nat} {x:α} {l:List α} {t:Nat} (h:k≤t) (hk:k≤l.length):(insAt k x l)[t+1]?=l[t]?:=by
 unfold insAt;have hlen:(l.take k).length=k:=by simp;omega
 rw[List.getElem?_append_right (by omega),hlen,show t+1-k=(t-k)+1 from by omega,List.getElem?_cons_succ,List.getElem?_drop]
 congr 1;omega
theorem insAt_flatten_mem {k:Nat} {bs:List Nat} {bss:List (List Nat)} {b:Nat}:b∈(insAt k bs bss).flatten↔b∈bs∨b∈bss.flatten:=by
 unfold insAt
 conv=>rhs;rw[←List.take_append_drop k bss]
 simp only[List.flatten_append,List.flatten_cons,List.mem_append];constructor
 ·rintro (h|h|h)
  ·exact .inr (.inl h)
  ·exact .inl h
  ·exact .inr (.inr h)
 ·rintro (h|h|h)
  ·exact .inr (.inl h)
  ·exact .inl h
  ·exact .inr (.inr h)
theorem insAt_nodup {k:Nat} {bs:List Nat} {bss:List (List Nat)} (h:bss.flatten.Nodup) (h1:bs.Nodup) (h2:∀x∈bs,x∉bss.flatten):(insAt k bs bss).flatten.Nodup:=by
 unfold insAt;rw[←List.take_append_drop k bss,List.flatten_append,List.nodup_append] at h;obtain⟨n1,n2,n3⟩:=h
 have hm:∀x,x∈(bss.take k).flatten→x∈bss.flatten:=fun x hx=>by
  rw[←List.take_append_drop k bss,List.flatten_append];exact List.mem_append_left _ hx
 have hm2:∀x,x∈(bss.drop k).flatten→x∈bss.flatten:=fun x hx=>by
  rw[←List.take_append_drop k bss,List.flatten_append];exact List.mem_append_right _ hx
 rw[List.flatten_append,List.flatten_cons,List.nodup_append,List.nodup_append];refine⟨n1,⟨h1,n2,fun x hx y hy e=>h2 x hx (hm2 x (e ▸ hy))⟩,fun x hx y hy e=>?_⟩;rcases List.mem_append.1 hy with hy|hy
 ·exact h2 y hy (hm y (e ▸ hx))
 ·exact n3 x hx y hy e
theorem BuiltC.rebase {E:TypeId} {size:Nat} {W wy w:World} {v:Value} {n:Nat} {cs:List Value} (h:BuiltC E size wy w v n cs) (hb:Below W.heap.size W wy):BuiltC E size W w v n cs:=by
 refine⟨⟨h.1.1,?_⟩,bnext hb h.2⟩;rcases h.1.2 with h1|⟨g,cap,cur,rfl,h1,h2⟩
 ·exact .inl h1
 ·exact .inr ⟨g,cap,cur,rfl,Nat.le_trans hb.size h1,h2⟩
theorem insDone {E:TypeId} {W wr wy w':World} {ov xv:Value} {L:List (List Int)} {bss:List (List Nat)} {cs:List Value} {k:Nat} {x:List Int} {a:Option Addr} {n c:Nat} {bsx:List Nat}
  (h:OutII E W wr ov L bss) (h1:BuiltC E 1 W wr ov L.length cs) (h2:ElsI wr cs L bss) (hy:Below wr.heap.size wr wy) (hk:k≤L.length)
  (hx:BuiltC E 1 wy w' xv (L.length+1) (insAt k (.slice a n c) cs)) (ho:OInts w' (.slice a n c) x bsx) (hnx:bsx.Nodup) (hbx:∀b∈bsx,wy.heap.size≤b∧b<w'.heap.size∧b∉blk xv) :
  OutII E W w' xv (insAt k x L) (insAt k bsx bss):=by
 obtain⟨_,h6,h7⟩:=h;have hs1:=hy.size;have hs2:=hx.2.size;have hW:=h1.2.size;have hlen:=h1.len;have hbl:=h2.1;have hrw:Below wr.heap.size wr w':=bnext hy hx.2
 have hblk:∀b∈blk xv,wy.heap.size≤b:=fun b hb=>by
  rcases hx.form with⟨rfl,_⟩|⟨g,cap,rfl,_,_⟩
  ·simp[blk] at hb
  ·simp[blk] at hb;subst hb;exact hx.lt.1
 rw[List.nodup_append] at h6;obtain⟨n1,n2,n3⟩:=h6;refine⟨⟨_,by rw[insAt_len];exact hx.rebase (bnext h1.2 hy),⟨by rw[insAt_len,insAt_len,hbl],fun j d hd=>?_⟩⟩,?_,fun b hb=>?_⟩
 ·rcases Nat.lt_or_ge j k with hj|hj
  ·rw[insAt_get_lt hj hk] at hd;obtain⟨a',n',c',e1,e2⟩:=h2.2 j d hd;refine⟨a',n',c',by rw[insAt_get_lt hj (by omega)];exact e1,?_⟩
   have e5:(insAt k bsx bss).getD j []=bss.getD j []:=by
    rw[List.getD_eq_getElem?_getD,List.getD_eq_getElem?_getD,insAt_get_lt hj (by omega)]
   rw[e5];exact e2.below hrw
  ·rcases Nat.lt_or_ge k j with hj2|hj2
   ·obtain⟨t,rfl⟩:∃t,j=t+1:=⟨j-1,by omega⟩
    rw[insAt_get_gt (by omega) hk] at hd;obtain⟨a',n',c',e1,e2⟩:=h2.2 t d hd;refine⟨a',n',c',by rw[insAt_get_gt (by omega) (by omega)];exact e1,?_⟩
    have e5:(insAt k bsx bss).getD (t+1) []=bss.getD t []:=by
     rw[List.getD_eq_getElem?_getD,List.getD_eq_getElem?_getD,insAt_get_gt (by omega) (by omega)]
    rw[e5];exact e2.below hrw
   ·obtain rfl:j=k:=by omega
    rw[insAt_get_eq hk] at hd
    cases hd;refine⟨a,n,c,insAt_get_eq (by omega),?_⟩
    have e5:(insAt j bsx bss).getD j []=bsx:=by
     rw[List.getD_eq_getElem?_getD,insAt_get_eq (by omega)];rfl
    rw[e5];exact ho
 ·rw[List.nodup_append];refine⟨?_,insAt_nodup n2 hnx (fun b hb hm=>?_),fun b hb y hy e=>?_⟩
  ·rcases hx.form with⟨rfl,_⟩|⟨g,cap,rfl,_,_⟩<;>simp[blk]
  ·have:=(hbx b hb).1;have:=(h7 b hm).2;omega
  ·subst e;rcases insAt_flatten_mem.1 hy with hy|hy
   ·exact (hbx b hy).2.2 hb
   ·have:=hblk b hb;have:=(h7 b hy).2;omega
 ·rcases insAt_flatten_mem.1 hb with hb|hb
  ·have:=hbx b hb;omega
  ·have:=h7 b hb;omega
end Go.Proofs.YtpedpbbiamhgdaaGreatDoor
namespace Go.Proofs.YtpedpbbiamhgdaaGreatDoor
open Go Go.Sort Go.RowKit
set_option linter.unusedVariables false
theorem take_insAt {α:Type} {cs:List α} {k:Nat} (x:α) {j:Nat} {u:α} (hk:k≤j) (h:cs[j]?=some u):(cs.take k++(x::(cs.drop k).take (j-k)))++[u]=cs.take k++(x::(cs.drop k).take (j+1-k)):=by
 obtain⟨hj,rfl⟩:=List.getElem?_eq_some_iff.1 h
 have e:(cs.drop k).take (j+1-k)=(cs.drop k).take (j-k)++[cs[j]]:=by
  rw[show j+1-k=(j-k)+1 from by omega,List.take_succ_eq_append_getElem (by simp;omega)]
  congr 2
  simp only[List.getElem_drop]
  congr 1;omega
 rw[e];simp
theorem take_next {α:Type} {cs:List α} {j:Nat} {u:α} (h:cs[j]?=some u):cs.take j++[u]=cs.take (j+1):=by
 obtain⟨hj,rfl⟩:=List.getElem?_eq_some_iff.1 h;rw[List.take_succ_eq_append_getElem hj]
theorem step_no {once:Bool} {out:List (List Int)} {x:List Int} {K:Nat} (hK:posK x out out.length=K) (h:once=false∨K=0∨out.getD (K-1) []≠x):sortStep once out x=insAt K x out:=by
 unfold sortStep;rw[hK,if_neg];intro hc;rw[Bool.and_eq_true,Bool.and_eq_true] at hc;have h1:=of_decide_eq_true hc.2.1;have h2:=of_decide_eq_true hc.2.2;rcases h with h|h|h
 ·rw[h] at hc;exact absurd hc.1 (by decide)
 ·omega
 ·exact h h2
theorem step_yes {out:List (List Int)} {x:List Int} {K:Nat} (hK:posK x out out.length=K) (h0:0<K) (h:out.getD (K-1) []=x):sortStep true out x=out:=by
 unfold sortStep;rw[hK,decide_eq_true h0,decide_eq_true h];rfl
set_option maxRecDepth 100000 in
set_option maxHeartbeats 32000000 in
theorem sSort6_any (w:World) (v:Value) (l:List (List Int)) (once:Bool) (h:RdIntSS w v l) (hz:∀x∈l,x.length≤1048576) (hz2:l.length≤1000000000) :
  Calls Tryz.prog 52 #[v,.bool once] w (GaveO (fun w' v' bs=>ROIntSS w' v' (sortL l once) bs) w):=by
 obtain⟨a,n,c,rfl,h⟩:=h;obtain⟨hl,hn,hm,hcell⟩:=h.at
 unfold maxLen at hm;rw[hl] at hz2;have HC:=Lib.hid hcell;have HL:=Lib.hid hl;have HZ:=Lib.hid hz;have hLe:=Lib.hid (fun w v v' l l' a b=>sLess_any w v v' l l' a b);have hEq:=Lib.hid (fun w v v' l l' a b=>sInts_any w v v' l l' a b);have HLIT:=Lib.hid (OutII.lit 24 w w (Below.refl _ _));clear h hcell hl hz;go_enter Tryz.func52,Tryz.ntmps52
 go_wp2_with fail
 go_loopw [5,6] (fun ov iv wr=>∃i:Nat,i≤n∧iv=.int .i64 i∧∃bss,Hid (OutII 24 w wr ov (sortTo l once i) bss)) (fun _ iv _=>n-(intOf iv).toNat)
 case atStart=>exact⟨0,by omega,rfl,[],by simpa[sortTo] using HLIT⟩
 case round=>
  obtain⟨i,hi,rfl,bss,HP⟩:=hrel;obtain⟨wO,hwO⟩:∃x,x=wr:=⟨_,rfl⟩
  subst hwO;obtain⟨ov,hov⟩:∃ov,ov=u5:=⟨_,rfl⟩
  subst hov;have hbq:=HP.out.below;have hlenT:=sortTo_len l once i;by_cases hlt:i<n
  ·obtain⟨b,off,rfl,hbw,hc⟩:=HC.out (by omega);obtain⟨x,hd⟩:∃e,l[i]?=some e:=⟨l[i]'(by rw[HL.out];exact hlt),List.getElem?_eq_getElem (by rw[HL.out];exact hlt)⟩
   obtain⟨ea,em,ec,c1,hints⟩:=intsAt (n:=n) hc i x hd;have HNX:=Lib.hid (sortTo_next (once:=once) hd);have hi0:(0:Int)≤i:=by omega
   have hi1:(i:Int)<n:=by omega
   have E1:=Lib.hid (cellk hbq c1);have HX:=Lib.hid (hints.below hbq);have hxz:x.length≤1048576:=HZ.out x (List.mem_of_getElem? hd);obtain⟨⟨cs,hc1,hc2⟩,hp2,hp3⟩:=HP.out;generalize sortTo l once i=L at *
   obtain⟨oa,oc,rfl,hoa,hoc⟩:∃oa oc,ov=.slice oa L.length oc∧(0<L.length→∃g,oa=some ⟨g,0,none⟩)∧oc≤maxLen:=by
    rcases hc1.form with⟨rfl,h0⟩|⟨g,cap,rfl,h1,h2⟩
    ·exact⟨none,0,by rw[h0],fun h=>by omega,Nat.zero_le _⟩
    ·exact⟨_,cap,rfl,fun _=>⟨g,rfl⟩,h2⟩
   obtain⟨m,hmL⟩:∃m,L.length=m:=⟨_,rfl⟩
   obtain⟨K,hK⟩:∃K,posK x L L.length=K:=⟨_,rfl⟩
   have hKm:K≤m:=by rw[←hK,←hmL];exact posK_le _ _ _
   have HDOWN:Hid (∀k,K<k→k≤m→lessB x (L.getD (k-1) [])=true):=fun k h1 h2=>by rw[←hK] at h1;rw[←hmL] at h2;exact posK_down k h1 h2
   have HSTOP:Hid (0<K→lessB x (L.getD (K-1) [])=false):=fun h0=>by rw[←hK] at h0 ⊢;exact posK_stop h0
   have HNO:Hid (once=false∨K=0∨L.getD (K-1) []≠x→sortTo l once (i+1)=insAt K x L):=fun h=>by rw[HNX.out];exact step_no hK h
   have HYES:Hid (once=true→0<K→L.getD (K-1) []=x→sortTo l once (i+1)=L):=fun h1 h2 h3=>by rw[HNX.out,h1];exact step_yes hK h2 h3
   have HEL:Hid (∀j,j<m→∃g pa pm pc,oa=some ⟨g,0,none⟩∧cs[j]?=some (.slice pa pm pc)∧wO.cell? ⟨g,j,none⟩=some (.slice pa pm pc)∧Ints wO (.slice pa pm pc) (L.getD j [])):=by
    intro j hj;have hjL:j<L.length:=by omega
    obtain⟨g,rfl⟩:=hoa (by omega);obtain⟨pa,pm,pc,q1,q2⟩:=hc2.2 j L[j] (List.getElem?_eq_getElem hjL);have q3:L.getD j []=L[j]:=by simp[List.getD,List.getElem?_eq_getElem hjL]
    exact⟨g,pa,pm,pc,rfl,q1,by rw[hc1.cell j (by omega)];exact q1,by rw[q3];exact q2.1⟩
   have HC1:=Lib.hid hc1;have HC2:=Lib.hid hc2;have HML:=Lib.hid hmL;have HCL:Hid (cs.length=m):=by have:=hc1.len;unfold Hid;omega
   unfold maxLen at hoc;rw[hmL] at HP ⊢;have HBQ:=Lib.hid hbq;have hmi:m≤i:=by omega
   clear hc hbw hd c1 hints hbq hc1 hc2 hp2 hp3 hoa hK hmL HNX hlenT;go_wp2_with fail
   go_loopw [7] (fun kv wk=>∃k:Nat,K≤k∧k≤m∧kv=.int .i64 k∧Below wO.heap.size wO wk) (fun kv _=>(intOf kv).toNat)
   case atStart=>exact⟨m,hKm,Nat.le_refl _,rfl,Below.refl _ _⟩
   case round=>
    obtain⟨k,hk1,hk2,rfl,hbk⟩:=hrel;obtain⟨wk,hwk⟩:∃x,x=wr:=⟨_,rfl⟩
    subst hwk;have HBK:=Lib.hid hbk;by_cases hkk:K<k
    ·obtain⟨k',rfl⟩:∃k',k=k'+1:=⟨k-1,by omega⟩
     obtain⟨g,pa,pm,pc,rfl,q1,q2,q3⟩:=HEL.out k' (by omega);have hle:=HDOWN.out (k'+1) hkk hk2;rw[show k'+1-1=k' from rfl] at hle;have r1:=cell_regrown (w:=wk) (cellk hbk E1.out);have r2:=cell_regrown (w:=wk) (cellk hbk q2);have e1:(((k'+1:Nat)):Int)-1=k':=by omega
     have e2:(0:Int)<((k'+1:Nat):Int):=by omega
     have e3:(0:Int)≤k':=by omega
     have e4:(k':Int)<m:=by omega
     have hcall:=Lib.hid (fun dn os=>hLe.out (grow (redrawn wk dn) os) (.slice ea em ec) (.slice pa pm pc) x (L.getD k' []) (HX.out.below (hbk.trans ((below_regrown wk dn os).mono hbk.size))) (q3.below (hbk.trans ((below_regrown wk dn os).mono hbk.size))));rw[hle] at hcall;clear hbk q1 q2 q3 hle;go_wp2_with fail
     refine wp_region_quiet_below (by kernel_rfl) (by kernel_rfl) ?_
     repeat (any_goals (first|go_big_quiet_step ((go_at_call 108;exact Calls.regrown_of (hcall.out _ _)))|quiet_step ((go_at_call 108;exact Calls.regrown_of (hcall.out _ _)))))
     refine wpQuiet_nil ?_;intro _ hw';obtain⟨⟨dq,osq⟩,hw''⟩:=hw';subst hw'';go_wp2_with fail
     exact⟨⟨k',by omega,by omega,by simp,bnext HBK.out (below_regrown _ _ _)⟩,by simp[intOf]⟩
    ·obtain rfl:k=K:=by omega
     clear hkk hk1 hk2 HDOWN;by_cases hK0:k=0
     ·have HST:=Lib.hid (HNO.out (.inr (.inl hK0)));clear HNO HYES HSTOP;obtain rfl:=hK0;have e0:((0:Int)<((0:Nat):Int))=False:=by simp
      go_wp2_with fail
      refine wp_region_quiet_below (by kernel_rfl) (by kernel_rfl) ?_
      repeat (any_goals (first|go_big_quiet_step (fail)|quiet_step (fail)))
      refine wpQuiet_nil ?_;intro _ hw';obtain⟨⟨dq,osq⟩,hw''⟩:=hw';subst hw'';go_wp2_with fail
      cases once
      all_goals
       skip
       refine wp_region_quiet_below (by kernel_rfl) (by kernel_rfl) ?_
       repeat (any_goals (first|go_big_quiet_step (fail)|quiet_step (fail)))
       refine wpQuiet_nil ?_;intro _ hw';obtain⟨⟨dr,osr⟩,hw''⟩:=hw';subst hw'';have HBY:=Lib.hid (bnext HBK.out (bnext (below_regrown wk dq osq) (below_regrown _ dr osr)));generalize grow (redrawn (grow (redrawn wk dq) osq) dr) osr=wy at *;have HLX:Hid (BuiltC 24 1 wy (wy.alloc (.cells #[] 24)) (.slice (some ⟨wy.heap.size,0,none⟩) 0 0) 0 (cs.take 0)):=BuiltC.lit 24 1 wy wy 0 [] (Nat.zero_le _) rfl (Below.refl _ _);go_wp2_with fail
       go_loopw [8,9] (fun xv jv wj=>∃j:Nat,j≤0∧jv=.int .i64 j∧Hid (BuiltC 24 1 wy wj xv j (cs.take j))) (fun _ jv _=>0-(intOf jv).toNat)
       case atStart=>exact⟨0,by omega,rfl,HLX⟩
       case round=>
        obtain⟨j,hj,rfl,HXV⟩:=hrel;obtain⟨wj,hwj⟩:∃x,x=wr:=⟨_,rfl⟩
        subst hwj;obtain⟨xv,hxv⟩:∃xv,xv=u8:=⟨_,rfl⟩
        subst hxv;by_cases hjk:j<0
        ·exact absurd hjk (by omega)
        ·obtain rfl:0=j:=by omega
         have rx:=cellk (bnext HBY.out HXV.out.2) E1.out;have HXJ:=Lib.hid (HX.out.below (bnext HBY.out HXV.out.2));have rxa:=cellk (below_alloc wj (.cells #[] 3)) rx;have HXA:=Lib.hid (HXJ.out.below (below_alloc wj (.cells #[] 3)))
         have hlit:Built .i64 3 wj (wj.alloc (.cells #[] 3)) (.slice (some ⟨wj.heap.size,0,none⟩) 0 0) []:=by
          have:=Built.lit .i64 3 wj wj [] (Nat.zero_le _) (Below.refl _ _);simpa using this
         have HLI:=Lib.hid hlit;clear hjk hj hlit;go_wp2_with (at_builtin;refine wpList_appInts rfl (.tmp 67) (.tmp 71) 24 rfl 3 Tryz.underlying24 info_i64 _ [] rfl HLI.out _ x rfl HXA.out (by simp;omega) ?_)
         intro v1 w1 hb1;obtain⟨bsx,ho1,hnx,hfx⟩:=OInts.ofBuilt hb1 (by simpa using HXA.out.1);obtain⟨va,vn,vc,rfl⟩:=ho1.1.shape;have ho1':OInts w1 (.slice va vn vc) x bsx:=by simpa using ho1
         have HO1:=Lib.hid ho1';clear ho1';have HFX:=Lib.hid hfx;have HNXD:=Lib.hid hnx;have HXV1:=Lib.hid (HXV.out.grow hb1.below);have hlx:=blk_lt HXV.out;have HLX2:Hid (∀b∈bsx,b∉blk xv):=fun b hb hm=>by have:=hlx b hm;have:=(hfx b hb).1;omega
         have HS1:=Lib.hid HXV.out.2.size;clear hb1 ho1 hnx hfx hlx rx rxa;go_wp2_with (at_builtin;refine wpList_app1D rfl (.tmp 66) (.tmp 73) 44 rfl 24 (.slice none 0 0) 1 24 Tryz.underlying44 info_IntSl (by decide) (by decide) (by rfl) xv 0 (cs.take 0) rfl HXV1.out [.slice va vn vc] rfl (by simp[Value.oneCell']) (by first|rfl|(simp;rfl)) (by omega) ?_)
         intro v2 w2 hown2 ko2 hbl2
         have HX2:Hid (BuiltC 24 1 wy w2 v2 (0+1) (cs.take 0++(.slice va vn vc::(cs.drop 0).take (0-0)))):=by
          unfold Hid;rw[Nat.sub_self];exact hown2
         have HO2:Hid (OInts w2 (.slice va vn vc) x bsx):=HO1.out.onlyAt ko2 HLX2.out
         have HF2:Hid (∀b∈bsx,wy.heap.size≤b∧b<w2.heap.size∧b∉blk v2):=fun b hb=>by
          have h1:=HFX.out b hb;have h2:=HS1.out;have h3:=ko2.size;refine⟨by omega,by omega,fun hm=>?_⟩;rcases hbl2 b hm with h4|h4
          ·exact HLX2.out b hb h4
          ·omega
         clear hown2 ko2 hbl2;go_wp2_with fail
         go_loopw [8,10] (fun xv jv wj=>∃j:Nat,0≤j∧j≤m∧jv=.int .i64 j∧Hid (BuiltC 24 1 wy wj xv (j+1) (cs.take 0++(.slice va vn vc::(cs.drop 0).take (j-0))))∧Hid (OInts wj (.slice va vn vc) x bsx)∧Hid (∀b∈bsx,wy.heap.size≤b∧b<wj.heap.size∧b∉blk xv)) (fun _ jv _=>m-(intOf jv).toNat)
         case atStart=>exact⟨0,Nat.le_refl _,hKm,rfl,HX2,HO2,HF2⟩
         case round=>
          obtain⟨j,hj1,hj2,rfl,HXW,HOW,HFW⟩:=hrel;obtain⟨wl,hwl⟩:∃x,x=wr:=⟨_,rfl⟩
          subst hwl;obtain⟨xw,hxw⟩:∃xw,xw=u8:=⟨_,rfl⟩
          subst hxw;by_cases hjm:j<m
          ·obtain⟨g2,pa,pm,pc,hg2,q1,q2,q3⟩:=HEL.out j hjm
           cases hg2;have r2:=cellk (bnext HBY.out HXW.out.2) q2;have HQ1:=Lib.hid (take_insAt (.slice va vn vc) hj1 q1);have e1:(0:Int)≤j:=by omega
           have e3:(j:Int)<m:=by omega
           clear q1 q2 q3;go_wp2_with (at_builtin;refine wpList_app1D rfl (.tmp 82) (.tmp 87) 44 rfl 24 (.slice none 0 0) 1 24 Tryz.underlying44 info_IntSl (by decide) (by decide) (by rfl) xw (j+1) _ rfl HXW.out [.slice pa pm pc] rfl (by simp[Value.oneCell']) (by first|rfl|(simp;rfl)) (by omega) ?_)
           intro v3 w3 hown3 ko3 hbl3
           have HX3:Hid (BuiltC 24 1 wy w3 v3 (j+1+1) (cs.take 0++(.slice va vn vc::(cs.drop 0).take (j+1-0)))):=by
            unfold Hid;rw[←HQ1.out];first|exact hown3|(rw[List.append_assoc,List.cons_append];exact hown3)
           have HO3:Hid (OInts w3 (.slice va vn vc) x bsx):=HOW.out.onlyAt ko3 (fun b hb=>(HFW.out b hb).2.2)
           have HF3:Hid (∀b∈bsx,wy.heap.size≤b∧b<w3.heap.size∧b∉blk v3):=fun b hb=>by
            have h1:=HFW.out b hb;have h3:=ko3.size;refine⟨h1.1,by omega,fun hm=>?_⟩;rcases hbl3 b hm with h4|h4
            ·exact h1.2.2 h4
            ·omega
           clear hown3 ko3 hbl3 r2;go_wp2_with fail
           exact⟨⟨j+1,by omega,by omega,by simp,HX3,HO3,HF3⟩,by simp[intOf];omega⟩
          ·obtain rfl:j=m:=by omega
           have hdn:(cs.drop 0).take (j-0)=cs.drop 0:=List.take_of_length_le (by rw[List.length_drop,HCL.out];exact Nat.le_refl _);rw[hdn] at HXW;have HDONE:=Lib.hid (insDone HP.out (by have h9:=HC1.out;rw[HML.out] at h9 ⊢;exact h9) HC2.out HBY.out (by rw[HML.out];exact hKm) (by rw[HML.out];exact HXW.out) HOW.out HNXD.out HFW.out);clear hdn;go_wp2_with fail
           exact⟨⟨i+1,by omega,by simp,_,by rw[HST.out];exact HDONE⟩,by simp[intOf];omega⟩
     ·obtain⟨k',rfl⟩:∃k',k=k'+1:=⟨k-1,by omega⟩
      obtain⟨g,pa,pm,pc,rfl,q1,q2,q3⟩:=HEL.out k' (by omega);have hle:=HSTOP.out (by omega);rw[show k'+1-1=k' from rfl] at hle HNO HYES;have R1:=Lib.hid (cellk hbk E1.out);have R2:=Lib.hid (cellk hbk q2);have r1:=cell_regrown (w:=wk) R1.out;have r2:=cell_regrown (w:=wk) R2.out;have e1:(((k'+1:Nat)):Int)-1=k':=by omega
      have e2:(0:Int)<((k'+1:Nat):Int):=by omega
      have e3:(0:Int)≤k':=by omega
      have e4:(k':Int)<m:=by omega
      have hcall:=Lib.hid (fun dn os=>hLe.out (grow (redrawn wk dn) os) (.slice ea em ec) (.slice pa pm pc) x (L.getD k' []) (HX.out.below (hbk.trans ((below_regrown wk dn os).mono hbk.size))) (q3.below (hbk.trans ((below_regrown wk dn os).mono hbk.size))));rw[hle] at hcall;have Q3:=Lib.hid q3;clear hbk q1 q2 q3 hle HSTOP hK0;go_wp2_with fail
      refine wp_region_quiet_below (by kernel_rfl) (by kernel_rfl) ?_
      repeat (any_goals (first|go_big_quiet_step ((go_at_call 108;exact Calls.regrown_of (hcall.out _ _)))|quiet_step ((go_at_call 108;exact Calls.regrown_of (hcall.out _ _)))))
      refine wpQuiet_nil ?_;intro _ hw';obtain⟨⟨dq,osq⟩,hw''⟩:=hw';subst hw'';have HBX:=Lib.hid (bnext HBK.out (below_regrown wk dq osq));have R3:=Lib.hid (cellk (below_regrown wk dq osq) R1.out);have R4:=Lib.hid (cellk (below_regrown wk dq osq) R2.out);clear r1 r2;generalize grow (redrawn wk dq) osq=wx at *;have r1:=cell_regrown (w:=wx) R3.out;have r2:=cell_regrown (w:=wx) R4.out;have hcall2:=Lib.hid (fun dn os=>hEq.out (grow (redrawn wx dn) os) (.slice pa pm pc) (.slice ea em ec) (L.getD k' []) x (Q3.out.below (HBX.out.trans ((below_regrown wx dn os).mono HBX.out.size))) (HX.out.below (HBX.out.trans ((below_regrown wx dn os).mono HBX.out.size))))
      have hcase:once=false∨(once=true∧decide (L.getD k' []=x)=false)∨(once=true∧decide (L.getD k' []=x)=true):=by
       cases once<;>cases decide (L.getD k' []=x)<;>simp
      go_wp2_with fail
      rcases hcase with rfl|⟨rfl,hde⟩|⟨rfl,hde⟩
      ·have HST:=Lib.hid (HNO.out (.inl rfl));clear HNO HYES hcall hcall2;refine wp_region_quiet_below (by kernel_rfl) (by kernel_rfl) ?_
       repeat (any_goals (first|go_big_quiet_step (fail)|quiet_step (fail)))
       refine wpQuiet_nil ?_;intro _ hw';obtain⟨⟨dr,osr⟩,hw''⟩:=hw';subst hw'';have HBY:=Lib.hid (bnext HBX.out (below_regrown wx dr osr));clear r1 r2;generalize grow (redrawn wx dr) osr=wy at *;clear e1 e2;generalize hkk:k'+1=kk at *;have hKm:kk≤m:=by omega
       clear hkk;have HLX:Hid (BuiltC 24 1 wy (wy.alloc (.cells #[] 24)) (.slice (some ⟨wy.heap.size,0,none⟩) 0 0) 0 (cs.take 0)):=BuiltC.lit 24 1 wy wy 0 [] (Nat.zero_le _) rfl (Below.refl _ _);go_wp2_with fail
       go_loopw [8,9] (fun xv jv wj=>∃j:Nat,j≤kk∧jv=.int .i64 j∧Hid (BuiltC 24 1 wy wj xv j (cs.take j))) (fun _ jv _=>kk-(intOf jv).toNat)
       case atStart=>exact⟨0,by omega,rfl,HLX⟩
       case round=>
        obtain⟨j,hj,rfl,HXV⟩:=hrel;obtain⟨wj,hwj⟩:∃x,x=wr:=⟨_,rfl⟩
        subst hwj;obtain⟨xv,hxv⟩:∃xv,xv=u8:=⟨_,rfl⟩
        subst hxv;by_cases hjk:j<kk
        ·obtain⟨g2,pa,pm,pc,hg2,q1,q2,q3⟩:=HEL.out j (by omega)
         cases hg2;have r2:=cellk (bnext HBY.out HXV.out.2) q2;have HQ1:=Lib.hid (take_next q1);have e1:(0:Int)≤j:=by omega
         have e2:(j:Int)<kk:=by omega
         have e3:(j:Int)<m:=by omega
         clear q1 q2 q3;go_wp2_with (at_builtin;refine wpList_app1C rfl (.tmp 59) (.tmp 64) 44 rfl 24 (.slice none 0 0) 1 24 Tryz.underlying44 info_IntSl (by decide) (by decide) (by rfl) xv j (cs.take j) rfl HXV.out [.slice pa pm pc] rfl (by simp[Value.oneCell']) (by first|rfl|(simp;rfl)) (by omega) ?_)
         intro v' w' hown';have HNEW:Hid (BuiltC 24 1 wy w' v' (j+1) (cs.take (j+1))):=by unfold Hid;rw[←HQ1.out];exact hown'
         clear hown' r2;go_wp2_with fail
         exact⟨⟨j+1,by omega,by simp,HNEW⟩,by simp[intOf];omega⟩
        ·obtain rfl:kk=j:=by omega
         have rx:=cellk (bnext HBY.out HXV.out.2) E1.out;have HXJ:=Lib.hid (HX.out.below (bnext HBY.out HXV.out.2));have rxa:=cellk (below_alloc wj (.cells #[] 3)) rx;have HXA:=Lib.hid (HXJ.out.below (below_alloc wj (.cells #[] 3)))
         have hlit:Built .i64 3 wj (wj.alloc (.cells #[] 3)) (.slice (some ⟨wj.heap.size,0,none⟩) 0 0) []:=by
          have:=Built.lit .i64 3 wj wj [] (Nat.zero_le _) (Below.refl _ _);simpa using this
         have HLI:=Lib.hid hlit;clear hjk hj hlit;go_wp2_with (at_builtin;refine wpList_appInts rfl (.tmp 67) (.tmp 71) 24 rfl 3 Tryz.underlying24 info_i64 _ [] rfl HLI.out _ x rfl HXA.out (by simp;omega) ?_)
         intro v1 w1 hb1;obtain⟨bsx,ho1,hnx,hfx⟩:=OInts.ofBuilt hb1 (by simpa using HXA.out.1);obtain⟨va,vn,vc,rfl⟩:=ho1.1.shape;have ho1':OInts w1 (.slice va vn vc) x bsx:=by simpa using ho1
         have HO1:=Lib.hid ho1';clear ho1';have HFX:=Lib.hid hfx;have HNXD:=Lib.hid hnx;have HXV1:=Lib.hid (HXV.out.grow hb1.below);have hlx:=blk_lt HXV.out;have HLX2:Hid (∀b∈bsx,b∉blk xv):=fun b hb hm=>by have:=hlx b hm;have:=(hfx b hb).1;omega
         have HS1:=Lib.hid HXV.out.2.size;clear hb1 ho1 hnx hfx hlx rx rxa;go_wp2_with (at_builtin;refine wpList_app1D rfl (.tmp 66) (.tmp 73) 44 rfl 24 (.slice none 0 0) 1 24 Tryz.underlying44 info_IntSl (by decide) (by decide) (by rfl) xv kk (cs.take kk) rfl HXV1.out [.slice va vn vc] rfl (by simp[Value.oneCell']) (by first|rfl|(simp;rfl)) (by omega) ?_)
         intro v2 w2 hown2 ko2 hbl2
         have HX2:Hid (BuiltC 24 1 wy w2 v2 (kk+1) (cs.take kk++(.slice va vn vc::(cs.drop kk).take (kk-kk)))):=by
          unfold Hid;rw[Nat.sub_self];exact hown2
         have HO2:Hid (OInts w2 (.slice va vn vc) x bsx):=HO1.out.onlyAt ko2 HLX2.out
         have HF2:Hid (∀b∈bsx,wy.heap.size≤b∧b<w2.heap.size∧b∉blk v2):=fun b hb=>by
          have h1:=HFX.out b hb;have h2:=HS1.out;have h3:=ko2.size;refine⟨by omega,by omega,fun hm=>?_⟩;rcases hbl2 b hm with h4|h4
          ·exact HLX2.out b hb h4
          ·omega
         clear hown2 ko2 hbl2;go_wp2_with fail
         go_loopw [8,10] (fun xv jv wj=>∃j:Nat,kk≤j∧j≤m∧jv=.int .i64 j∧Hid (BuiltC 24 1 wy wj xv (j+1) (cs.take kk++(.slice va vn vc::(cs.drop kk).take (j-kk))))∧Hid (OInts wj (.slice va vn vc) x bsx)∧Hid (∀b∈bsx,wy.heap.size≤b∧b<wj.heap.size∧b∉blk xv)) (fun _ jv _=>m-(intOf jv).toNat)
         case atStart=>exact⟨kk,Nat.le_refl _,hKm,rfl,HX2,HO2,HF2⟩
         case round=>
          obtain⟨j,hj1,hj2,rfl,HXW,HOW,HFW⟩:=hrel;obtain⟨wl,hwl⟩:∃x,x=wr:=⟨_,rfl⟩
          subst hwl;obtain⟨xw,hxw⟩:∃xw,xw=u8:=⟨_,rfl⟩
          subst hxw;by_cases hjm:j<m
          ·obtain⟨g2,pa,pm,pc,hg2,q1,q2,q3⟩:=HEL.out j hjm
           cases hg2;have r2:=cellk (bnext HBY.out HXW.out.2) q2;have HQ1:=Lib.hid (take_insAt (.slice va vn vc) hj1 q1);have e1:(0:Int)≤j:=by omega
           have e3:(j:Int)<m:=by omega
           clear q1 q2 q3;go_wp2_with (at_builtin;refine wpList_app1D rfl (.tmp 82) (.tmp 87) 44 rfl 24 (.slice none 0 0) 1 24 Tryz.underlying44 info_IntSl (by decide) (by decide) (by rfl) xw (j+1) _ rfl HXW.out [.slice pa pm pc] rfl (by simp[Value.oneCell']) (by first|rfl|(simp;rfl)) (by omega) ?_)
           intro v3 w3 hown3 ko3 hbl3
           have HX3:Hid (BuiltC 24 1 wy w3 v3 (j+1+1) (cs.take kk++(.slice va vn vc::(cs.drop kk).take (j+1-kk)))):=by
            unfold Hid;rw[←HQ1.out];first|exact hown3|(rw[List.append_assoc,List.cons_append];exact hown3)
           have HO3:Hid (OInts w3 (.slice va vn vc) x bsx):=HOW.out.onlyAt ko3 (fun b hb=>(HFW.out b hb).2.2)
           have HF3:Hid (∀b∈bsx,wy.heap.size≤b∧b<w3.heap.size∧b∉blk v3):=fun b hb=>by
            have h1:=HFW.out b hb;have h3:=ko3.size;refine⟨h1.1,by omega,fun hm=>?_⟩;rcases hbl3 b hm with h4|h4
            ·exact h1.2.2 h4
            ·omega
           clear hown3 ko3 hbl3 r2;go_wp2_with fail
           exact⟨⟨j+1,by omega,by omega,by simp,HX3,HO3,HF3⟩,by simp[intOf];omega⟩
          ·obtain rfl:j=m:=by omega
           have hdn:(cs.drop kk).take (j-kk)=cs.drop kk:=List.take_of_length_le (by rw[List.length_drop,HCL.out];exact Nat.le_refl _);rw[hdn] at HXW;have HDONE:=Lib.hid (insDone HP.out (by have h9:=HC1.out;rw[HML.out] at h9 ⊢;exact h9) HC2.out HBY.out (by rw[HML.out];exact hKm) (by rw[HML.out];exact HXW.out) HOW.out HNXD.out HFW.out);clear hdn;go_wp2_with fail
           exact⟨⟨i+1,by omega,by simp,_,by rw[HST.out];exact HDONE⟩,by simp[intOf];omega⟩
      ·have HST:=Lib.hid (HNO.out (.inr (.inr (of_decide_eq_false hde))));rw[hde] at hcall2;clear HNO HYES hcall hde;refine wp_region_quiet_below (by kernel_rfl) (by kernel_rfl) ?_
       repeat (any_goals (first|go_big_quiet_step ((go_at_call 50;exact Calls.regrown_of (hcall2.out _ _)))|quiet_step ((go_at_call 50;exact Calls.regrown_of (hcall2.out _ _)))))
       refine wpQuiet_nil ?_;intro _ hw';obtain⟨⟨dr,osr⟩,hw''⟩:=hw';subst hw'';have HBY:=Lib.hid (bnext HBX.out (below_regrown wx dr osr));clear r1 r2;generalize grow (redrawn wx dr) osr=wy at *;clear e1 e2;generalize hkk:k'+1=kk at *;have hKm:kk≤m:=by omega
       clear hkk;have HLX:Hid (BuiltC 24 1 wy (wy.alloc (.cells #[] 24)) (.slice (some ⟨wy.heap.size,0,none⟩) 0 0) 0 (cs.take 0)):=BuiltC.lit 24 1 wy wy 0 [] (Nat.zero_le _) rfl (Below.refl _ _);go_wp2_with fail
       go_loopw [8,9] (fun xv jv wj=>∃j:Nat,j≤kk∧jv=.int .i64 j∧Hid (BuiltC 24 1 wy wj xv j (cs.take j))) (fun _ jv _=>kk-(intOf jv).toNat)
       case atStart=>exact⟨0,by omega,rfl,HLX⟩
       case round=>
        obtain⟨j,hj,rfl,HXV⟩:=hrel;obtain⟨wj,hwj⟩:∃x,x=wr:=⟨_,rfl⟩
        subst hwj;obtain⟨xv,hxv⟩:∃xv,xv=u8:=⟨_,rfl⟩
        subst hxv;by_cases hjk:j<kk
        ·obtain⟨g2,pa,pm,pc,hg2,q1,q2,q3⟩:=HEL.out j (by omega)
         cases hg2;have r2:=cellk (bnext HBY.out HXV.out.2) q2;have HQ1:=Lib.hid (take_next q1);have e1:(0:Int)≤j:=by omega
         have e2:(j:Int)<kk:=by omega
         have e3:(j:Int)<m:=by omega
         clear q1 q2 q3;go_wp2_with (at_builtin;refine wpList_app1C rfl (.tmp 59) (.tmp 64) 44 rfl 24 (.slice none 0 0) 1 24 Tryz.underlying44 info_IntSl (by decide) (by decide) (by rfl) xv j (cs.take j) rfl HXV.out [.slice pa pm pc] rfl (by simp[Value.oneCell']) (by first|rfl|(simp;rfl)) (by omega) ?_)
         intro v' w' hown';have HNEW:Hid (BuiltC 24 1 wy w' v' (j+1) (cs.take (j+1))):=by unfold Hid;rw[←HQ1.out];exact hown'
         clear hown' r2;go_wp2_with fail
         exact⟨⟨j+1,by omega,by simp,HNEW⟩,by simp[intOf];omega⟩
        ·obtain rfl:kk=j:=by omega
         have rx:=cellk (bnext HBY.out HXV.out.2) E1.out;have HXJ:=Lib.hid (HX.out.below (bnext HBY.out HXV.out.2));have rxa:=cellk (below_alloc wj (.cells #[] 3)) rx;have HXA:=Lib.hid (HXJ.out.below (below_alloc wj (.cells #[] 3)))
         have hlit:Built .i64 3 wj (wj.alloc (.cells #[] 3)) (.slice (some ⟨wj.heap.size,0,none⟩) 0 0) []:=by
          have:=Built.lit .i64 3 wj wj [] (Nat.zero_le _) (Below.refl _ _);simpa using this
         have HLI:=Lib.hid hlit;clear hjk hj hlit;go_wp2_with (at_builtin;refine wpList_appInts rfl (.tmp 67) (.tmp 71) 24 rfl 3 Tryz.underlying24 info_i64 _ [] rfl HLI.out _ x rfl HXA.out (by simp;omega) ?_)
         intro v1 w1 hb1;obtain⟨bsx,ho1,hnx,hfx⟩:=OInts.ofBuilt hb1 (by simpa using HXA.out.1);obtain⟨va,vn,vc,rfl⟩:=ho1.1.shape;have ho1':OInts w1 (.slice va vn vc) x bsx:=by simpa using ho1
         have HO1:=Lib.hid ho1';clear ho1';have HFX:=Lib.hid hfx;have HNXD:=Lib.hid hnx;have HXV1:=Lib.hid (HXV.out.grow hb1.below);have hlx:=blk_lt HXV.out;have HLX2:Hid (∀b∈bsx,b∉blk xv):=fun b hb hm=>by have:=hlx b hm;have:=(hfx b hb).1;omega
         have HS1:=Lib.hid HXV.out.2.size;clear hb1 ho1 hnx hfx hlx rx rxa;go_wp2_with (at_builtin;refine wpList_app1D rfl (.tmp 66) (.tmp 73) 44 rfl 24 (.slice none 0 0) 1 24 Tryz.underlying44 info_IntSl (by decide) (by decide) (by rfl) xv kk (cs.take kk) rfl HXV1.out [.slice va vn vc] rfl (by simp[Value.oneCell']) (by first|rfl|(simp;rfl)) (by omega) ?_)
         intro v2 w2 hown2 ko2 hbl2
         have HX2:Hid (BuiltC 24 1 wy w2 v2 (kk+1) (cs.take kk++(.slice va vn vc::(cs.drop kk).take (kk-kk)))):=by
          unfold Hid;rw[Nat.sub_self];exact hown2
         have HO2:Hid (OInts w2 (.slice va vn vc) x bsx):=HO1.out.onlyAt ko2 HLX2.out
         have HF2:Hid (∀b∈bsx,wy.heap.size≤b∧b<w2.heap.size∧b∉blk v2):=fun b hb=>by
          have h1:=HFX.out b hb;have h2:=HS1.out;have h3:=ko2.size;refine⟨by omega,by omega,fun hm=>?_⟩;rcases hbl2 b hm with h4|h4
          ·exact HLX2.out b hb h4
          ·omega
         clear hown2 ko2 hbl2;go_wp2_with fail
         go_loopw [8,10] (fun xv jv wj=>∃j:Nat,kk≤j∧j≤m∧jv=.int .i64 j∧Hid (BuiltC 24 1 wy wj xv (j+1) (cs.take kk++(.slice va vn vc::(cs.drop kk).take (j-kk))))∧Hid (OInts wj (.slice va vn vc) x bsx)∧Hid (∀b∈bsx,wy.heap.size≤b∧b<wj.heap.size∧b∉blk xv)) (fun _ jv _=>m-(intOf jv).toNat)
         case atStart=>exact⟨kk,Nat.le_refl _,hKm,rfl,HX2,HO2,HF2⟩
         case round=>
          obtain⟨j,hj1,hj2,rfl,HXW,HOW,HFW⟩:=hrel;obtain⟨wl,hwl⟩:∃x,x=wr:=⟨_,rfl⟩
          subst hwl;obtain⟨xw,hxw⟩:∃xw,xw=u8:=⟨_,rfl⟩
          subst hxw;by_cases hjm:j<m
          ·obtain⟨g2,pa,pm,pc,hg2,q1,q2,q3⟩:=HEL.out j hjm
           cases hg2;have r2:=cellk (bnext HBY.out HXW.out.2) q2;have HQ1:=Lib.hid (take_insAt (.slice va vn vc) hj1 q1);have e1:(0:Int)≤j:=by omega
           have e3:(j:Int)<m:=by omega
           clear q1 q2 q3;go_wp2_with (at_builtin;refine wpList_app1D rfl (.tmp 82) (.tmp 87) 44 rfl 24 (.slice none 0 0) 1 24 Tryz.underlying44 info_IntSl (by decide) (by decide) (by rfl) xw (j+1) _ rfl HXW.out [.slice pa pm pc] rfl (by simp[Value.oneCell']) (by first|rfl|(simp;rfl)) (by omega) ?_)
           intro v3 w3 hown3 ko3 hbl3
           have HX3:Hid (BuiltC 24 1 wy w3 v3 (j+1+1) (cs.take kk++(.slice va vn vc::(cs.drop kk).take (j+1-kk)))):=by
            unfold Hid;rw[←HQ1.out];first|exact hown3|(rw[List.append_assoc,List.cons_append];exact hown3)
           have HO3:Hid (OInts w3 (.slice va vn vc) x bsx):=HOW.out.onlyAt ko3 (fun b hb=>(HFW.out b hb).2.2)
           have HF3:Hid (∀b∈bsx,wy.heap.size≤b∧b<w3.heap.size∧b∉blk v3):=fun b hb=>by
            have h1:=HFW.out b hb;have h3:=ko3.size;refine⟨h1.1,by omega,fun hm=>?_⟩;rcases hbl3 b hm with h4|h4
            ·exact h1.2.2 h4
            ·omega
           clear hown3 ko3 hbl3 r2;go_wp2_with fail
           exact⟨⟨j+1,by omega,by omega,by simp,HX3,HO3,HF3⟩,by simp[intOf];omega⟩
          ·obtain rfl:j=m:=by omega
           have hdn:(cs.drop kk).take (j-kk)=cs.drop kk:=List.take_of_length_le (by rw[List.length_drop,HCL.out];exact Nat.le_refl _);rw[hdn] at HXW;have HDONE:=Lib.hid (insDone HP.out (by have h9:=HC1.out;rw[HML.out] at h9 ⊢;exact h9) HC2.out HBY.out (by rw[HML.out];exact hKm) (by rw[HML.out];exact HXW.out) HOW.out HNXD.out HFW.out);clear hdn;go_wp2_with fail
           exact⟨⟨i+1,by omega,by simp,_,by rw[HST.out];exact HDONE⟩,by simp[intOf];omega⟩
      ·have HST:=Lib.hid (HYES.out rfl (by omega) (of_decide_eq_true hde));rw[hde] at hcall2;clear HNO HYES hcall hde;refine wp_region_quiet_below (by kernel_rfl) (by kernel_rfl) ?_
       repeat (any_goals (first|go_big_quiet_step ((go_at_call 50;exact Calls.regrown_of (hcall2.out _ _)))|quiet_step ((go_at_call 50;exact Calls.regrown_of (hcall2.out _ _)))))
       refine wpQuiet_nil ?_;intro _ hw';obtain⟨⟨dr,osr⟩,hw''⟩:=hw';subst hw'';have HPX:Hid (OutII 24 w (grow (redrawn wx dr) osr) (.slice (some ⟨g,0,none⟩) m oc) L bss):=HP.out.grow (bnext HBX.out (below_regrown wx dr osr));clear r1 r2;go_wp2_with fail
       exact⟨⟨i+1,by omega,by simp,_,by rw[HST.out];exact HPX⟩,by simp[intOf];omega⟩
  ·obtain rfl:i=n:=by omega
   have HALL:Hid (sortTo l once i=sortL l once):=by unfold Hid;rw[←HL.out];exact sortTo_all l once
   clear hbq hlenT;go_wp2_with fail
   go_ret;have hp:=HP.out;rw[HALL.out] at hp;obtain⟨bs,b1,b2⟩:=hp.done;exact⟨_,bs,rfl,b1,b2,hp.below⟩
def tupT (b:List Int) (t:Int):Int:=if t<0 then -1-t else b.getD t.toNat 0
def tupL (head b:List Int):List Int:=head.map (tupT b)
theorem tupT_inI {b:List Int} {t:Int} (hb:∀x∈b,inI x) (ht:inI t):inI (tupT b t):=by
 unfold tupT
 split
 ·unfold inI at ht ⊢;omega
 ·exact inI_getD hb _
theorem tup_take {head b:List Int} {i:Nat} (h:i<head.length):(head.take (i+1)).map (tupT b)=(head.take i).map (tupT b)++[tupT b (head.getD i 0)]:=by
 have hg:head.getD i 0=head[i]:=by simp[List.getD,List.getElem?_eq_getElem h]
 rw[List.take_succ_eq_append_getElem h,List.map_append,hg];rfl
set_option maxRecDepth 100000 in
set_option maxHeartbeats 4000000 in
theorem sTuple6_any (w:World) (vh vb:Value) (head b:List Int) (hh:Ints w vh head) (hb:Ints w vb b) (hz:head.length≤1048576) (hin:∀t∈head,t<b.length) :
  Calls Tryz.prog 109 #[vh,vb] w (GaveInts w (tupL head b)):=by
 obtain⟨a,n,cap,rfl,hl,hn,hm,hcell⟩:=hh.cases;obtain⟨a',n',cap',rfl,hl',hn',hm',hcell'⟩:=hb.cases;unfold maxLen at hm hm';rw[hl] at hz;have HC:=Lib.hid hcell;have HC':=Lib.hid hcell';have HL:=Lib.hid hl;have HIH:=Lib.hid hh.1;have HIB:=Lib.hid hb.1;have HIN:Hid (∀t∈head,t<n'):=by unfold Hid;rw[←hl'];exact hin
 have hlit:=Built.lit .i64 3 w w [] (Nat.zero_le _) (Below.refl _ _);have HLIT:Hid (Built .i64 3 w (w.alloc (.cells #[] 3)) (.slice (some ⟨w.heap.size,0,none⟩) 0 0) []):=Lib.hid (by simpa using hlit);clear hh hb hcell hcell' hl hl' hin hlit;go_enter Tryz.func109,Tryz.ntmps109
 go_wp2_with fail
 go_loopw [5,6] (fun ov iv wr=>∃i:Nat,i≤n∧iv=.int .i64 i∧Hid (Built .i64 3 w wr ov ((head.take i).map (tupT b)))) (fun _ iv _=>n-(intOf iv).toNat)
 case atStart=>exact⟨0,by omega,rfl,by simpa using HLIT⟩
 case round=>
  obtain⟨i,hi,rfl,HO⟩:=hrel;obtain⟨ov,hov⟩:∃ov,ov=u5:=⟨_,rfl⟩
  subst hov;have hbq:=HO.out.below;by_cases hlt:i<n
  ·obtain⟨hb,hoff,rfl,_,hc⟩:=HC.out (by omega);have c1:=cellk hbq (hc i hlt);have HTK:=Lib.hid (tup_take (b:=b) (show i<head.length by rw[HL.out];exact hlt));have hxx:=inI_getD HIH.out i;unfold inI at hxx;have hmem:head.getD i 0∈head:=getD_mem (by rw[HL.out];exact hlt);have htn:=HIN.out _ hmem;have hlen:((head.take i).map (tupT b)).length≤i:=by simp;omega
   have hi0:(0:Int)≤i:=by omega
   have hi1:(i:Int)<n:=by omega
   generalize (head.take i).map (tupT b)=L at *;clear hc hmem;by_cases ht:head.getD i 0<0
   ·have HV:Hid (tupT b (head.getD i 0)=-1-head.getD i 0):=by unfold Hid tupT;rw[if_pos ht]
    generalize head.getD i 0=t at *;clear htn;go_wp2_with (at_builtin;refine wpList_app1 rfl (.tmp 19) (.tmp 25) 24 rfl .i64 3 0 8 Tryz.underlying24 info_i64 (by decide) ov L rfl HO.out _ rfl (by omega) ?_)
    intro v' w3 hown';have HO4:=Lib.hid hown';clear hown';go_wp2_with fail
    exact⟨⟨i+1,by omega,by simp,by rw[HTK.out,HV.out];exact HO4⟩,by simp[intOf];omega⟩
   ·obtain⟨k,hk⟩:=Int.eq_ofNat_of_zero_le (by omega:0≤head.getD i 0);have HV:Hid (tupT b (head.getD i 0)=b.getD k 0):=by unfold Hid tupT;rw[if_neg ht,hk];rfl
    rw[hk] at c1 htn ht;have hkn:k<n':=by omega
    obtain⟨hb2,hoff2,rfl,_,hc2⟩:=HC'.out (by omega);have c2:=cellk hbq (hc2 k hkn);have hk0:(0:Int)≤k:=by omega
    have ht0:¬((k:Int)<0):=by omega
    clear ht hc2 hxx hk;generalize b.getD k 0=y at *;go_wp2_with (at_builtin;refine wpList_app1 rfl (.tmp 27) (.tmp 35) 24 rfl .i64 3 0 8 Tryz.underlying24 info_i64 (by decide) ov L rfl HO.out _ rfl (by omega) ?_)
    intro v' w3 hown';have HO4:=Lib.hid hown';clear hown';go_wp2_with fail
    exact⟨⟨i+1,by omega,by simp,by rw[HTK.out,HV.out];exact HO4⟩,by simp[intOf];omega⟩
  ·obtain rfl:i=n:=by omega
   have hT:Hid ((head.take i).map (tupT b)=tupL head b):=by unfold Hid tupL;rw[List.take_of_length_le (by rw[HL.out];exact Nat.le_refl _)]
   clear hbq;go_wp2_with fail
   go_ret;have ho:=HO.out;rw[hT.out] at ho
   exact ho.owns (fun y hy=>by
    unfold tupL at hy;obtain⟨t,ht,rfl⟩:=List.mem_map.1 hy;exact tupT_inI HIB.out (HIH.out t ht))
set_option maxRecDepth 100000 in
set_option maxHeartbeats 8000000 in
theorem sHeads6_any (w:World) (v vb:Value) (d:QueryD) (bl:List (List Int)) (h:RdQuery w v d) (hb:RdIntSS w vb bl) (hz:d.1.length≤1048576) (hz2:bl.length≤1000000000) (hin:∀b∈bl,∀t∈d.1,t<b.length) :
  Calls Tryz.prog 53 #[v,vb] w (GaveO (fun w' v' bs=>ROIntSS w' v' (bl.map (tupL d.1)) bs) w):=by
 obtain⟨a0,n0,c0,a1,n1,c1q,rfl,hi,_⟩:=h;obtain⟨a,n,c,rfl,hb⟩:=hb;obtain⟨hl,hn,hm,hcell⟩:=hb.at
 unfold maxLen at hm;rw[hl] at hz2;have HC:=Lib.hid hcell;have HL:=Lib.hid hl;have HI:=Lib.hid hi;have hT:=Lib.hid (fun w vb b h h' hin=>sTuple6_any w (.slice a0 n0 c0) vb d.1 b h h' hz hin);have HIN:=Lib.hid hin
 have hb0:∀o,Below w.heap.size w (w.alloc o):=fun o=>(Below.refl _ _).alloc (Nat.le_refl _) _
 have HB0:=Lib.hid hb0;clear hb hcell hl hi hin hb0;go_enter Tryz.func53,Tryz.ntmps53
 go_wp2_with fail
 obtain⟨W,hW⟩:∃W,W=w.alloc (.cells #[.slice a0 n0 c0,.slice a1 n1 c1q] 29):=⟨_,rfl⟩
 have HBW:Hid (Below w.heap.size w W):=by rw[hW];exact HB0.out _
 have KQ:Hid (W.cell? ⟨w.heap.size,0,none⟩=some (.slice a0 n0 c0)):=by rw[hW];unfold Hid;simp
 have hws:w.heap.size+1=W.heap.size:=by rw[hW];simp
 rw[←hW]
 try rw[hws]
 have HLIT:=Lib.hid (OutII.lit 24 W W (Below.refl _ _));clear hW hws
 go_loopw [5,6] (fun ov iv wr=>∃i:Nat,i≤n∧iv=.int .i64 i∧∃bss,Hid (OutII 24 W wr ov ((bl.take i).map (tupL d.1)) bss)) (fun _ iv _=>n-(intOf iv).toNat)
 case atStart=>exact⟨0,by omega,rfl,[],by simpa using HLIT⟩
 case round=>
  obtain⟨i,hi,rfl,bss,HP⟩:=hrel;obtain⟨ov,hov⟩:∃ov,ov=u5:=⟨_,rfl⟩
  subst hov;have hbq:=HP.out.below;by_cases hlt:i<n
  ·obtain⟨b,off,rfl,hbw,hc⟩:=HC.out (by omega);obtain⟨e,hd⟩:∃e,bl[i]?=some e:=⟨bl[i]'(by rw[HL.out];exact hlt),List.getElem?_eq_getElem (by rw[HL.out];exact hlt)⟩
   obtain⟨ea,em,ec,c1,hints⟩:=intsAt (n:=n) hc i e hd;have hww:=bnext HBW.out hbq;have k1:=cellk hww c1;have kq:=cellk hbq KQ.out;have HTK:Hid ((bl.take (i+1)).map (tupL d.1)=(bl.take i).map (tupL d.1)++[tupL d.1 e]):=by unfold Hid;rw[take_atI hd,List.map_append];rfl
   have hi0:(0:Int)≤i:=by omega
   have hi1:(i:Int)<n:=by omega
   have hlen2:((bl.take i).map (tupL d.1)).length≤i:=by simp;omega
   have HINT:=Lib.hid (hints.below hww);have HIW:=Lib.hid (HI.out.below hww);have hcall:=Lib.hid (fun wc hb=>hT.out wc (.slice ea em ec) e (HIW.out.below (w':=wc) hb) (HINT.out.below (w':=wc) hb) (HIN.out e (List.mem_of_getElem? hd)));obtain⟨cs,hc1,hc2⟩:=HP.out.1;have HC1:=Lib.hid hc1;have HC2:=Lib.hid hc2;generalize (bl.take i).map (tupL d.1)=L at *;clear hc hbw hd c1 hints hww hc1 hc2 hbq;go_wp2_with fail
   go_region_law (first
    |(refine step_app1D (by rfl) (.tmp 14) (.tmp 22) 44 (by rfl) 24 (.slice none 0 0) 1 24 Tryz.underlying44 info_IntSl (by decide) (by decide) (by rfl) ov L.length cs (by rfl) (HC2c.out.grow ((Below.refl _ _).alloc (Nat.le_refl _) _)) w2.heap.size [.slice ba bn bc] (by rfl) (by simp[Value.oneCell']) (by rfl) (heap_alloc_new w2 _) (by omega) ?_;intro g' cap' w3 hown' ko hbl;have HNEW:=Lib.hid (OutII.step HP.out HC1.out HC2.out hB2 ((Below.refl _ _).alloc (Nat.le_refl _) _) HOB.out HFB.out hown' ko (fun b hb=>(hbl b hb).imp id (fun e=>by rw[e];exact Nat.le_refl _))))
    |(go_simp;go_at_call 109;refine (hcall.out _ ((Below.refl _ _).drew)).mono ?_;rintro e2 w2 ⟨vb,bsb,rfl,hob,hfb,hbb⟩;obtain⟨ba,bn,bc,rfl⟩:=hob.1.shape;have hB2:=bnext (Below.refl wr.heap.size wr).drew hbb;have q2:=cellk hB2 kq;have q3:=cellk hB2 k1;have HC2c:=Lib.hid (HC1.out.grow hB2);have HOB:=Lib.hid hob;have HFB:=Lib.hid (hfb.wide (Nat.le_refl _) (Nat.le_refl _):Fresh wr w2 bsb)))
   all_goals (go_wp2_with fail)
   all_goals exact⟨⟨i+1,by omega,by simp,_,by rw[HTK.out];exact HNEW⟩,by simp[intOf];omega⟩
  ·obtain rfl:i=n:=by omega
   have hTT:Hid (bl.take i=bl):=List.take_of_length_le (by rw[HL.out];exact Nat.le_refl _);clear hbq;go_wp2_with fail
   go_ret;have hp:=HP.out;rw[hTT.out] at hp;obtain⟨bs,b1,b2⟩:=hp.done;exact⟨_,bs,rfl,b1,⟨b2.1,fun b hb=>⟨Nat.le_trans HBW.out.size (b2.2 b hb).1,(b2.2 b hb).2⟩⟩,bnext HBW.out hp.below⟩
def emptyB:List Int:=List.replicate 20 (-1)++List.replicate 20 0
set_option maxHeartbeats 4000000 in
theorem sEmpty6_any (w:World):Calls Tryz.prog 154 #[] w (GaveInts w emptyB):=by
 have hlit:=Built.lit .i64 3 w w [] (Nat.zero_le _) (Below.refl _ _);have HLIT:Hid (Built .i64 3 w (w.alloc (.cells #[] 3)) (.slice (some ⟨w.heap.size,0,none⟩) 0 0) []):=Lib.hid (by simpa using hlit);clear hlit;go_enter Tryz.func154,Tryz.ntmps154
 go_wp2_with fail
 go_loopw [1,2] (fun ov iv wr=>∃i:Nat,i≤20∧iv=.int .i64 i∧Hid (Built .i64 3 w wr ov (List.replicate i (-1)))) (fun _ iv _=>20-(intOf iv).toNat)
 case atStart=>exact⟨0,by omega,rfl,HLIT⟩
 case round=>
  obtain⟨i,hi,rfl,HO⟩:=hrel;obtain⟨ov,hov⟩:∃ov,ov=u1:=⟨_,rfl⟩
  subst hov;obtain⟨wx,hwx⟩:∃x,x=wr:=⟨_,rfl⟩
  subst hwx;by_cases hlt:i<20
  ·have hi1:(i:Int)<20:=by omega
   have hlen:(List.replicate i (-1:Int)).length=i:=by simp
   have HS:Hid (List.replicate (i+1) (-1:Int)=List.replicate i (-1)++[-1]):=List.replicate_succ';generalize List.replicate i (-1:Int)=L at *;go_wp2_with (at_builtin;refine wpList_app1 rfl (.tmp 9) (.tmp 10) 24 rfl .i64 3 0 8 Tryz.underlying24 info_i64 (by decide) ov L rfl HO.out _ rfl (by omega) ?_)
   intro v' w3 hown';have HO4:=Lib.hid hown';clear hown';go_wp2_with fail
   exact⟨⟨i+1,by omega,by simp,by rw[HS.out];exact HO4⟩,by simp[intOf];omega⟩
  ·have HI20:=Lib.hid (show i=20 by omega);have hi1:¬((i:Int)<20):=by omega
   obtain⟨i0,hi0'⟩:∃x,x=i:=⟨_,rfl⟩
   subst hi0';clear hlt hi;go_wp2_with fail
   go_loopw [1,3] (fun ov iv wr=>∃i:Nat,i≤20∧iv=.int .i64 i∧Hid (Built .i64 3 w wr ov (List.replicate i0 (-1)++List.replicate i 0))) (fun _ iv _=>20-(intOf iv).toNat)
   case atStart=>exact⟨0,by omega,rfl,by simpa using HO⟩
   case round=>
    have hi20:=HI20.out;obtain⟨i,hi,rfl,HO2⟩:=hrel;obtain⟨ov2,hov2⟩:∃ov,ov=u1:=⟨_,rfl⟩
    subst hov2;by_cases hlt:i<20
    ·have hi2:(i:Int)<20:=by omega
     have hlen:(List.replicate i0 (-1:Int)++List.replicate i 0).length=i0+i:=by rw[List.length_append,List.length_replicate,List.length_replicate]
     have hlen9:i0+i≤40:=by omega
     clear hi20;have HS:Hid (List.replicate i0 (-1:Int)++List.replicate (i+1) 0=(List.replicate i0 (-1)++List.replicate i 0)++[0]):=by unfold Hid;rw[List.replicate_succ' (n:=i),List.append_assoc]
     generalize List.replicate i0 (-1:Int)++List.replicate i 0=L at *;go_wp2_with (at_builtin;refine wpList_app1 rfl (.tmp 16) (.tmp 17) 24 rfl .i64 3 0 8 Tryz.underlying24 info_i64 (by decide) ov2 L rfl HO2.out _ rfl (by omega) ?_)
     intro v' w3 hown';have HO4:=Lib.hid hown';clear hown';go_wp2_with fail
     exact⟨⟨i+1,by omega,by simp,by rw[HS.out];exact HO4⟩,by simp[intOf];omega⟩
    ·obtain rfl:i=20:=by omega
     have HE:Hid (Built .i64 3 w wr ov2 emptyB):=by have h9:=HO2;rw[hi20] at h9;exact h9
     clear HO2 hi20;go_wp2_with fail
     go_ret
     exact HE.out.owns (fun y hy=>by
      unfold emptyB at hy;rcases List.mem_append.1 hy with h|h
      ·have:=List.eq_of_mem_replicate h;subst this;exact⟨by decide,by decide⟩
      ·have:=List.eq_of_mem_replicate h;subst this;exact⟨by decide,by decide⟩)
def bindStep (b:List Int) (t v:Int):Option (List Int):=
 if t<0 then (if -1-t=v then some b else none)
 else if b.getD (20+t.toNat) 0=0 then some ((b.set t.toNat v).set (20+t.toNat) 1)
 else if b.getD t.toNat 0=v then some b else none
def bindTo (args values b:List Int):Nat→Option (List Int)
 |0=>some b
 |i+1=>(bindTo args values b i).bind (fun b'=>bindStep b' (args.getD i 0) (values.getD i 0))
def bindL (args values b:List Int):Option (List Int):=bindTo args values b args.length
theorem bindTo_none {args values b:List Int} {i:Nat} (h:bindTo args values b i=none):∀j,i≤j→bindTo args values b j=none:=by
 intro j hj
 induction j with
 |zero=>obtain rfl:i=0:=(by omega);exact h
 |succ j ih=>
  rcases Nat.lt_or_ge i (j+1) with h1|h1
  ·unfold bindTo;rw[ih (by omega)];rfl
  ·obtain rfl:i=j+1:=by omega
   exact h
theorem bindTo_next {args values b b':List Int} {i:Nat} (h:bindTo args values b i=some b'):bindTo args values b (i+1)=bindStep b' (args.getD i 0) (values.getD i 0):=by
 show (bindTo args values b i).bind _=_;rw[h];rfl
theorem set_inI {l:List Int} {i:Nat} {y:Int} (h:∀x∈l,inI x) (hy:inI y):∀x∈l.set i y,inI x:=by
 intro x hx;rcases List.mem_or_eq_of_mem_set hx with h1|h1
 ·exact h x h1
 ·rw[h1];exact hy
def GaveBind (r:Option (List Int)) (w:World) (e:Ending) (w':World):Prop:=∃a n c bs b',e=.returned (.tuple #[.slice a n c,.bool r.isSome])∧OInts w' (.slice a n c) b' bs∧(∀x,r=some x→b'=x)∧Fresh w w' bs∧Below w.heap.size w w'
set_option maxRecDepth 100000 in
set_option maxHeartbeats 8000000 in
theorem sBind6_any (w:World) (va vv vb:Value) (args values b:List Int) (ha:Ints w va args) (hv:Ints w vv values) (hb:Ints w vb b) (hl:values.length=args.length) (hb40:b.length=40) (hin:∀t∈args,t<20) :
  Calls Tryz.prog 180 #[va,vv,vb] w (GaveBind (bindL args values b) w):=by
 obtain⟨a,n,cap,rfl,hla,hn,hm,hcell⟩:=ha.cases;obtain⟨a',n',cap',rfl,hlv,hn',hm',hcell'⟩:=hv.cases;obtain⟨xa,xc,rfl⟩:=hb.form;obtain rfl:n'=n:=by omega
 unfold maxLen at hm hm';have HC:=Lib.hid hcell;have HC':=Lib.hid hcell';have HL:=Lib.hid hla;have HLV:=Lib.hid hlv;have HIA:=Lib.hid ha.1;have HIV:=Lib.hid hv.1;have HIB:=Lib.hid hb.1;have HIN:=Lib.hid hin
 have HB:=Lib.hid hb;have hlit:=Built.lit .i64 3 w w [] (Nat.zero_le _) (Below.refl _ _);have HLIT:Hid (Built .i64 3 w (w.alloc (.cells #[] 3)) (.slice (some ⟨w.heap.size,0,none⟩) 0 0) []):=Lib.hid (by simpa using hlit);have HBA:=Lib.hid (hb.below (below_alloc w (.cells #[] 3)));have HB40:=Lib.hid hb40;have HNO:Hid (∀i,i≤n'→bindTo args values b i=none→bindL args values b=none):=fun i h1 h2=>bindTo_none h2 _ (by rw[HL.out];exact h1)
 have HYES:Hid (∀x,bindTo args values b n'=some x→bindL args values b=some x):=fun x h=>by unfold bindL;rw[HL.out];exact h
 rw[hb40] at HBA ⊢;clear ha hv hb hcell hcell' hla hlv hl hin hlit hb40;go_enter Tryz.func180,Tryz.ntmps180
 go_wp2_with (at_builtin;refine wpList_appInts rfl (.tmp 11) (.tmp 12) 24 rfl 3 Tryz.underlying24 info_i64 _ [] rfl HLIT.out _ b rfl HBA.out (by rw[HB40.out];simp) ?_)
 intro v1 w1 hb1;have hb2:Built .i64 3 w w1 v1 b:=by simpa using hb1
 obtain⟨g,gc,rfl,hgc⟩:∃g gc,v1=.slice (some ⟨g,0,none⟩) 40 gc∧gc≤maxLen:=by
  rcases BuiltC.form hb2 with⟨_,h0⟩|⟨g,cp,h,_,h2⟩
  ·rw[HB40.out] at h0;omega
  ·exact⟨g,cp,by rw[h,HB40.out],h2⟩
 unfold maxLen at hgc;have HBU:=Lib.hid hb2;clear hb1 hb2;go_wp2_with fail
 go_loopw [9] (fun iv wr=>∃i:Nat,i≤n'∧iv=.int .i64 i∧∃b',Hid (bindTo args values b i=some b')∧Hid (b'.length=40)∧Hid (∀x∈b',inI x)∧Hid (Built .i64 3 w wr (.slice (some ⟨g,0,none⟩) 40 gc) b')) (fun iv _=>n'-(intOf iv).toNat)
 case atStart=>exact⟨0,by omega,rfl,b,rfl,HB40,HIB,HBU⟩
 case round=>
  obtain⟨i,hi,rfl,b',HBT,HB4,HBI,HBB⟩:=hrel;have hbq:=HBB.out.below;by_cases hlt:i<n'
  ·obtain⟨ab,aoff,rfl,_,hc⟩:=HC.out (by omega);obtain⟨vb2,voff,rfl,_,hc'⟩:=HC'.out (by omega);have c1:=cellk hbq (hc i hlt);have c2:=cellk hbq (hc' i hlt);have hi0:(0:Int)≤i:=by omega
   have hi1:(i:Int)<n':=by omega
   have hxx:=inI_getD HIA.out i;unfold inI at hxx;have HVY:=Lib.hid (inI_getD HIV.out i);have htn:=HIN.out _ (getD_mem (l:=args) (j:=i) (by rw[HL.out];exact hlt));have HNX:=Lib.hid (bindTo_next HBT.out);have HNO2:Hid (bindStep b' (args.getD i 0) (values.getD i 0)=none→bindL args values b=none):=fun h=>HNO.out (i+1) hlt (by rw[HNX.out];exact h)
   have HFAIL:Hid (bindL args values b=none→GaveBind (bindL args values b) w (.returned (.tuple #[.slice (some ⟨g,0,none⟩) 40 gc,.bool false])) wr):=fun h=>by
    obtain⟨bs,h1,h2,h3⟩:=OInts.ofBuilt HBB.out HBI.out;exact⟨_,_,_,bs,b',by rw[h];rfl,h1,(fun x hx=>by rw[h] at hx;cases hx),⟨h2,h3⟩,HBB.out.below⟩
   have hcellB:∀j,j<40→wr.cell? ⟨g,j,none⟩=some (.int .i64 (b'.getD j 0)):=fun j hj=>by
    have hq:=HBB.out;rw[←HB4.out] at hq;exact Built.cell hq j (by rw[HB4.out];exact hj)
   have HCB:=Lib.hid hcellB;have HFZ:Hid (∀j,wr.frozen? ⟨g,j,none⟩=false):=fun j=>Built.frozen HB4.out.symm HBB.out j
   clear hc hc' hbq hcellB;by_cases ht:args.getD i 0<0
   ·by_cases hv:-1-args.getD i 0=values.getD i 0
    ·have HST:Hid (bindTo args values b (i+1)=some b'):=by unfold Hid;rw[HNX.out];unfold bindStep;rw[if_pos ht,if_pos hv]
     have q:((-1-args.getD i 0:Int) != values.getD i 0)=false:=by rw[hv];simp
     clear hv HNX HNO2 HFAIL htn HVY;generalize args.getD i 0=t at *;generalize values.getD i 0=y at *;go_wp2_with fail
     exact⟨⟨i+1,by omega,by simp,b',HST,HB4,HBI,HBB⟩,by simp[intOf];omega⟩
    ·have HF:=Lib.hid (HFAIL.out (HNO2.out (by unfold bindStep;rw[if_pos ht,if_neg hv])));have q:((-1-args.getD i 0:Int) != values.getD i 0)=true:=bne_iff_ne.2 hv;clear hv HNX HNO2 HFAIL htn HVY;generalize args.getD i 0=t at *;generalize values.getD i 0=y at *;go_wp2_with fail
     go_ret2
     exact HF.out
   ·obtain⟨k,hk⟩:=Int.eq_ofNat_of_zero_le (by omega:0≤args.getD i 0);rw[hk] at c1 ht htn HNX HNO2 hxx;have hk20:k<20:=by omega
    obtain⟨k2,hk2⟩:∃k2:Nat,(20:Int)+(k:Int)=(k2:Int):=⟨20+k,by omega⟩
    have hk3:k2=20+k:=by omega
    have z1:=HCB.out k2 (by omega);have z0:=HCB.out k (by omega);have f0:=HFZ.out k;have f1:=HFZ.out k2;have e0:(0:Int)≤k:=by omega
    have e1:(k:Int)<40:=by omega
    have e2:(0:Int)≤k2:=by omega
    have e3:(k2:Int)<40:=by omega
    have ht0:¬((k:Int)<0):=by omega
    have HKK:Hid (k≠k2):=by unfold Hid;omega
    unfold bindStep at HNX HNO2;rw[if_neg ht,Int.toNat_natCast,←hk3] at HNX HNO2;clear hk ht hxx htn hk3 hk20;by_cases hz:b'.getD k2 0=0
    ·rw[if_pos hz] at HNX;rw[hz] at z1;have hst:=(HBB.out.store (by rw[HB4.out]) k (values.getD i 0)).store (by rw[List.length_set,HB4.out]) k2 1;have HNEW:=Lib.hid hst;have HLEN:Hid (((b'.set k (values.getD i 0)).set k2 1).length=40):=by unfold Hid;rw[List.length_set,List.length_set];exact HB4.out
     have HINI:=Lib.hid (set_inI (i:=k2) (set_inI (i:=k) HBI.out HVY.out) (show inI 1 from ⟨by decide,by decide⟩))
     have z2:(wr.setCell ⟨g,k,none⟩ (.int .i64 (values.getD i 0))).cell? ⟨g,k2,none⟩=some (.int .i64 0):=by
      rw[World.cell?_setCell_other _ _ _ _ (fun e=>HKK.out (congrArg Addr.off e))];exact z1
     have f2:(wr.setCell ⟨g,k,none⟩ (.int .i64 (values.getD i 0))).frozen? ⟨g,k2,none⟩=false:=by rw[World.frozen?_setCell];exact f1
     clear hst HNO2 HFAIL hz HVY;generalize b'.getD k 0=y0 at *;generalize values.getD i 0=y at *;go_wp2_with fail
     exact⟨⟨i+1,by omega,by simp,_,HNX,HLEN,HINI,HNEW⟩,by simp[intOf];omega⟩
    ·rw[if_neg hz] at HNX HNO2;have hzb:((b'.getD k2 0:Int)==0)=false:=beq_eq_false_iff_ne.2 hz;by_cases hv:b'.getD k 0=values.getD i 0
     ·rw[if_pos hv] at HNX;rw[hv] at z0;clear HNO2 HFAIL hz HVY hv;generalize b'.getD k2 0=y2 at *;generalize values.getD i 0=y at *;go_wp2_with fail
      go_quiet (fail)
      have HBD:=Lib.hid (fun nd=>HBB.out.grow (drewN_below wr nd));go_wp2_with fail
      exact⟨⟨i+1,by omega,by simp,b',HNX,HB4,HBI,HBD.out _⟩,by simp[intOf];omega⟩
     ·have HNN:=Lib.hid (HNO2.out (if_neg hv));have q:((b'.getD k 0:Int) != values.getD i 0)=true:=bne_iff_ne.2 hv;clear HNO2 HFAIL hz HVY hv HNX;generalize b'.getD k2 0=y2 at *;generalize b'.getD k 0=y0 at *;generalize values.getD i 0=y at *;go_wp2_with fail
      go_quiet (fail)
      have HBD:=Lib.hid (fun nd=>HBB.out.grow (drewN_below wr nd));go_wp2_with fail
      go_ret2
      obtain⟨bs,h1,h2,h3⟩:=OInts.ofBuilt (HBD.out _) HBI.out;exact⟨_,_,_,bs,b',by rw[HNN.out];rfl,h1,(fun x hx=>by rw[HNN.out] at hx;cases hx),⟨h2,h3⟩,(HBD.out _).below⟩
  ·obtain rfl:i=n':=by omega
   have HY:=Lib.hid (HYES.out b' HBT.out);clear hbq;go_wp2_with fail
   go_ret2
   obtain⟨bs,h1,h2,h3⟩:=OInts.ofBuilt HBB.out HBI.out;exact⟨_,_,_,bs,b',by rw[HY.out];rfl,h1,(fun x hx=>by rw[HY.out] at hx;exact Option.some.inj hx),⟨h2,h3⟩,HBB.out.below⟩
theorem OnlyAt.mixed {bs bs':List Nat} {w0 w w':World} (h:OnlyAt bs w0 w) (k:OnlyAt bs' w w') (hn:∀b∈bs',b∈bs∨w0.heap.size≤b):OnlyAt bs w0 w':=
 ⟨k.os.trans h.os,k.tape.trans h.tape,k.output.trans h.output,Nat.le_trans h.size k.size,fun i hi hb=>
  (k.block i (Nat.lt_of_lt_of_le hi h.size) (fun hm=>by rcases hn i hm with h1|h1;exact hb h1;omega)).trans (h.block i hi hb)⟩
theorem OutII.onlyAt {E:TypeId} {W w w':World} {v:Value} {l:List (List Int)} {bss:List (List Nat)} {bs':List Nat} (h:OutII E W w v l bss) (ko:OnlyAt bs' w w') (hW:∀x∈bs',W.heap.size≤x) (hv:∀b∈blk v,b∉bs') (hn:∀b∈bss.flatten,b∉bs'):OutII E W w' v l bss:=by
 obtain⟨⟨cs,h1,h2⟩,h3,h4⟩:=h;refine⟨⟨cs,⟨⟨h1.1.1,?_⟩,OnlyAt.below h1.2 ko hW⟩,h2.onlyAt ko hn⟩,h3,fun b hb=>⟨(h4 b hb).1,Nat.lt_of_lt_of_le (h4 b hb).2 ko.size⟩⟩;rcases h1.1.2 with h5|⟨g,cap,cur,rfl,h5,hg,h6⟩
 ·exact .inl h5
 ·have hlt:g<w.heap.size:=by
   rcases Nat.lt_or_ge g w.heap.size with h7|h7
   ·exact h7
   ·rw[Array.getElem?_eq_none h7] at hg;cases hg
  exact .inr ⟨g,cap,cur,rfl,h5,by rw[ko.block g hlt (hv g (by simp[blk]))];exact hg,h6⟩
theorem BuiltC.blk_lt {E:TypeId} {size:Nat} {w0 w:World} {v:Value} {n:Nat} {cs:List Value} (h:BuiltC E size w0 w v n cs):∀x∈blk v,x<w.heap.size:=by
 intro x hx;rcases h.1.2 with h5|⟨g,cap,cur,rfl,h5,hg,h6⟩
 ·rw[h5.1] at hx;simp[blk] at hx
 ·simp[blk] at hx;subst hx;rcases Nat.lt_or_ge x w.heap.size with h7|h7
  ·exact h7
  ·rw[Array.getElem?_eq_none h7] at hg;cases hg
theorem OutII.blk_lt {E:TypeId} {W w:World} {v:Value} {l:List (List Int)} {bss:List (List Nat)} (h:OutII E W w v l bss):∀x∈blk v,x<w.heap.size:=by
 obtain⟨⟨cs,h1,h2⟩,_⟩:=h;exact h1.blk_lt
theorem OInts.blk_of {w:World} {v:Value} {l:List Int} {bs:List Nat} (h:OInts w v l bs) (hl:0<l.length):∀x∈blk v,x∈bs:=by
 intro x hx;rcases h.2 with⟨a,c,rfl,_⟩|⟨b,off,n,c,rfl,_,rfl,_⟩
 ·obtain⟨_,_,_,e,h1,_⟩:=h.1.cases
  cases e;omega
 ·simpa[blk] using hx
def PInv (E:TypeId) (W w:World) (B:Nat) (ov:Value) (l:List (List Int)) (bss:List (List Nat)):Prop:=
 OutII E W w ov l bss∧w.cell? ⟨B,0,none⟩=some ov∧w.frozen? ⟨B,0,none⟩=false∧W.heap.size≤B∧B<w.heap.size∧B∉blk ov∧B∉bss.flatten
theorem PInv.grow {E:TypeId} {W w w':World} {B:Nat} {ov:Value} {l:List (List Int)} {bss:List (List Nat)} (h:PInv E W w B ov l bss) (hb:Below w.heap.size w w'):PInv E W w' B ov l bss:=by
 obtain⟨h1,h2,h3,h4,h5,h6,h7⟩:=h;exact⟨h1.grow hb,cellk hb h2,frok hb h2 h3,h4,Nat.lt_of_lt_of_le h5 hb.size,h6,h7⟩
theorem PInv.step {E:TypeId} {W w w2 wa w3:World} {B:Nat} {v v':Value} {l:List (List Int)} {cs:List Value} {bss:List (List Nat)} {a:Option Addr} {n c:Nat} {li:List Int} {bs:List Nat}
  (h:PInv E W w B v l bss) (h1:BuiltC E 1 W w v l.length cs) (h2:ElsI w cs l bss) (hb2:Below w.heap.size w w2) (hba:Below w2.heap.size w2 wa) (ho:OInts w2 (.slice a n c) li bs) (hfr:Fresh w w2 bs)
  (h':BuiltC E 1 W w3 v' (l.length+1) (cs++[.slice a n c])) (ko:OnlyAt (blk v) wa w3) (hv':∀b∈blk v',b∈blk v∨wa.heap.size≤b) :
  PInv E W (w3.setCell ⟨B,0,none⟩ v') B v' (l++[li]) (bss++[bs])∧OnlyAt (B::blk v) w (w3.setCell ⟨B,0,none⟩ v')∧∀x∈blk v',x∈blk v∨w.heap.size≤x:=by
 obtain⟨p1,p2,p3,p4,p5,p6,p7⟩:=h;have hs2:=hb2.size;have hsa:=hba.size;have hs3:=ko.size;have hst:=OutII.step p1 h1 h2 hb2 hba ho hfr h' ko hv';have q2:=ko.cell p6 (cellk (bnext hb2 hba) p2);have q3:=ko.frozen (o:=0) (by omega) p6 (frok (bnext hb2 hba) p2 p3);have kst:=OnlyAt.setCell w3 B 0 v'
 have hBv:B∉blk v':=fun hm=>by
  rcases hv' B hm with h|h
  ·exact p6 h
  ·omega
 have hBb:B∉(bss++[bs]).flatten:=fun hm=>by
  have e:(bss++[bs]).flatten=bss.flatten++bs:=by simp
  rw[e] at hm;rcases List.mem_append.1 hm with h|h
  ·exact p7 h
  ·have:=hfr.lo B h;omega
 refine⟨⟨hst.onlyAt kst (fun x hx=>by simp at hx;omega) (fun b hb hm=>by simp at hm;subst hm;exact hBv hb) (fun b hb hm=>by simp at hm;subst hm;exact hBb hb),World.cell?_setCell_same _ _ _ q2,by rw[World.frozen?_setCell];exact q3,p4,by simp[World.setCell];omega,hBv,hBb⟩,?_,fun x hx=>(hv' x hx).imp id (fun h=>by omega)⟩;exact ((OnlyAt.ofBelow _ (bnext hb2 hba)).same (ko.wider (fun x hx=>by simp[hx]))).same (kst.wider (fun x hx=>by simp at hx;simp[hx]))
theorem Ints.takeAt {w:World} {b off n cap:Nat} {l:List Int} (h:Ints w (.slice (some ⟨b,off,none⟩) n cap) l) (k:Nat) (hk:k≤n) (hk0:0<k):Ints w (.slice (some ⟨b,off,none⟩) k cap) (l.take k):=by
 refine⟨fun x hx=>h.1 x (List.mem_of_mem_take hx),?_⟩;rcases h.2 with⟨a,c,e,hc,rfl⟩|⟨b',off',len,c,e,hl,h1,h2,hlt,hc⟩
 ·cases e;omega
 ·cases e;refine .inr ⟨b,off,k,cap,rfl,by simp;omega,by omega,h2,hlt,fun j hj=>?_⟩;rw[hc j (by omega)];simp[List.getD,hj]
theorem bindStep_len {b b':List Int} {t v:Int} (h:bindStep b t v=some b'):b'.length=b.length:=by
 unfold bindStep at h
 split at h
 ·split at h
  ·cases h;rfl
  ·cases h
 ·split at h
  ·cases h;simp
  ·split at h
   ·cases h;rfl
   ·cases h
theorem bindTo_len {args values b:List Int} {i:Nat} {b':List Int} (h:bindTo args values b i=some b'):b'.length=b.length:=by
 induction i generalizing b' with
 |zero=>cases h;rfl
 |succ i ih=>
  cases hq:bindTo args values b i with
  |none=>rw[bindTo_none hq (i+1) (by omega)] at h;cases h
  |some q=>rw[bindTo_next hq] at h;rw[bindStep_len h,ih hq]
theorem bindL_len {args values b b':List Int} (h:bindL args values b=some b'):b'.length=b.length:=bindTo_len h
def searchN (db:List AtomD):List AtomD→List Int→List (List Int)
 |[],b=>[b.take 20]
 |a::rest,b=>db.flatMap (fun f=>if f.1=a.1∧f.2.length=a.2.length then (match bindL a.2 f.2 b with|some b'=>searchN db rest b'|none=>[]) else [])
def hitN (db:List AtomD) (a:AtomD) (rest:List AtomD) (b:List Int) (f:AtomD):List (List Int):=if f.1=a.1∧f.2.length=a.2.length then (match bindL a.2 f.2 b with|some b'=>searchN db rest b'|none=>[]) else []
theorem searchN_cons (db:List AtomD) (a:AtomD) (rest:List AtomD) (b:List Int):searchN db (a::rest) b=db.flatMap (hitN db a rest b):=rfl
theorem hit_next {db:List AtomD} {a:AtomD} {rest:List AtomD} {b:List Int} {k:Nat} {f:AtomD} (h:db[k]?=some f):(db.take (k+1)).flatMap (hitN db a rest b)=(db.take k).flatMap (hitN db a rest b)++hitN db a rest b f:=by
 obtain⟨hk,rfl⟩:=List.getElem?_eq_some_iff.1 h;rw[List.take_succ_eq_append_getElem hk,List.flatMap_append];simp
theorem hit_le (db:List AtomD) (a:AtomD) (rest:List AtomD) (b:List Int) (k:Nat):((db.take k).flatMap (hitN db a rest b)).length≤(db.flatMap (hitN db a rest b)).length:=by
 have e:((db.take k)++(db.drop k)).flatMap (hitN db a rest b)=db.flatMap (hitN db a rest b):=by rw[List.take_append_drop]
 rw[←e,List.flatMap_append,List.length_append];omega
def GaveS (E:TypeId) (W:World) (B:Nat) (ov:Value) (l:List (List Int)) (w:World) (e:Ending) (w':World):Prop:=e=.returned (.tuple #[])∧∃ov' bss',PInv E W w' B ov' l bss'∧OnlyAt (B::blk ov) w w'∧∀x∈blk ov',x∈blk ov∨w.heap.size≤x
set_option maxRecDepth 100000 in
set_option maxHeartbeats 8000000 in
theorem sSearch6_end (d:QueryD) (db:List AtomD) (W:World) (vq vdb:Value) (B:Nat) (hq:RdQuery W vq d) (hdb:RdAtomS W vdb db) (i:Nat) (hi:i=d.2.length) (w:World) (vb:Value) (b:List Int) (ov:Value) (L:List (List Int)) (bss:List (List Nat))
  (hb:Ints w vb b) (hb40:b.length=40) (hp:PInv 24 W w B ov L bss) (hsz:L.length+1≤1000000000) :
  Calls Tryz.prog 153 #[vq,vdb,.int .i64 i,vb,.pointer (some ⟨B,0,none⟩)] w (GaveS 24 W B ov (L++[b.take 20]) w):=by
 obtain⟨a0,n0,c0,a1,n1,c1q,rfl,_,hbody⟩:=hq;have hbl:=hbody.at.1;obtain⟨da,dn,dc,rfl,_⟩:=hdb;obtain rfl:i=n1:=by omega
 rcases hb.2 with⟨_,_,_,_,h0⟩|⟨g,off,len,xc,rfl,hl,h1,h2,hlt,hc⟩
 ·rw[h0] at hb40;simp at hb40
 obtain rfl:len=40:=by omega
 have HT:=Lib.hid (hb.takeAt 20 (by omega) (by omega));have HP:=Lib.hid hp;obtain⟨⟨⟨cs,hc1,hc2⟩,_⟩,hp2,hp3,hp4,hp5,hp6,hp7⟩:=hp;have HC1:=Lib.hid hc1;have HC2:=Lib.hid hc2;have HB6:=Lib.hid hp6;have q20:(20:Int)≤xc:=by unfold maxLen at h2;omega
 unfold maxLen at h2;have HBT:Hid ((b.take 20).length=20):=by unfold Hid;rw[List.length_take,hb40];rfl
 have HTI:=Lib.hid (fun y (hy:y∈b.take 20)=>hb.1 y (List.mem_of_mem_take hy));clear hbody hbl hc1 hc2 hb hl hc hlt h1 hp4 hp6 hp7 hi;go_enter Tryz.func153,Tryz.ntmps153
 go_wp2_with fail
 have hb0:Below w.heap.size w (w.alloc (.cells #[.slice a0 n0 c0,.slice a1 i c1q] 29)):=below_alloc _ _;have HPX:=Lib.hid (HP.out.grow hb0);have HC1X:=Lib.hid (HC1.out.grow hb0);have HC2X:=Lib.hid (HC2.out.grow hb0);have HTX:=Lib.hid (HT.out.below hb0);have kx:=cellk hb0 hp2;have fx:=frok hb0 hp2 hp3;have HSZ:=Lib.hid hb0.size;generalize w.alloc (.cells #[.slice a0 n0 c0,.slice a1 i c1q] 29)=wq at *;have hal:Below wq.heap.size wq (wq.alloc (.cells #[] 3)):=below_alloc _ _;have kxa:=cellk hal kx
 have hlit:Built .i64 3 wq (wq.alloc (.cells #[] 3)) (.slice (some ⟨wq.heap.size,0,none⟩) 0 0) []:=by
  have:=Built.lit .i64 3 wq wq [] (Nat.zero_le _) (Below.refl _ _);simpa using this
 have HLIT:=Lib.hid hlit.drew;have HIA:=Lib.hid (HTX.out.below hal.drew);have HWQ:=Lib.hid hb0;clear hal hlit hb0 hp2 hp3 hp5
 go_region_law (first
  |(refine step_app1D (by rfl) (.tmp 21) (.tmp 26) 44 (by rfl) 24 (.slice none 0 0) 1 24 Tryz.underlying44 info_IntSl (by decide) (by decide) (by rfl) ov L.length cs (by rfl) (HCR.out.grow ((Below.refl _ _).alloc (Nat.le_refl _) _)) w1.heap.size [.slice va vn vc] (by rfl) (by simp[Value.oneCell']) (by rfl) (heap_alloc_new w1 _) (by omega) ?_;intro g' cap' w3 hown' ko hbl;have z1:=ko.cell HB6.out (cellk (below_alloc w1 (.cells #[.slice va vn vc] 24)) kw1);have z2:=ko.frozen (o:=0) (Nat.lt_of_lt_of_le (World.block_lt_of_cell? w1 _ kw1) (below_alloc w1 (.cells #[.slice va vn vc] 24)).size) HB6.out (frok (below_alloc w1 (.cells #[.slice va vn vc] 24)) kw1 fw1);have HNEW:=Lib.hid (PInv.step HPX.out HC1X.out HC2X.out HBW1.out (below_alloc w1 (.cells #[.slice va vn vc] 24)) HOV.out HFV.out hown' ko (fun b hb=>(hbl b hb).imp id (fun e=>by rw[e];exact Nat.le_refl _))))
  |(refine step_appInts (by rfl) (.tmp 22) (.tmp 24) 24 (by rfl) 3 Tryz.underlying24 info_i64 _ [] (by rfl) HLIT.out _ (b.take 20) (by rfl) HIA.out (by rw[HBT.out];simp) ?_;intro v1 w1 hown1;obtain⟨bs1,ho1,hn1,hf1⟩:=OInts.ofBuilt hown1 (by simpa using HTI.out);obtain⟨va,vn,vc,rfl⟩:=ho1.1.shape;have ho1':OInts w1 (.slice va vn vc) (b.take 20) bs1:=(by simpa using ho1);have HOV:=Lib.hid ho1';have HFV:Hid (Fresh wq w1 bs1):=⟨hn1,hf1⟩;have hbl1:=hown1.below;have HBW1:=Lib.hid hbl1;have kw1:=cellk hbl1 kx;have fw1:=frok hbl1 kx fx;have kw1a:=cellk (below_alloc w1 (.cells #[.slice va vn vc] 24)) kw1;have HCR:=Lib.hid (HC1X.out.grow hbl1);clear hown1 ho1 ho1' hbl1 hn1 hf1))
 all_goals (go_wp2_with fail)
 all_goals (first|(refine bodyPost_ret (results_none rfl _ _ _) rfl ?_)|(refine bodyPost_end (results_none rfl _ _ _) rfl ?_))
 all_goals
  obtain⟨r1,r2,r3⟩:=HNEW.out;refine⟨rfl,.slice (some ⟨g',0,none⟩) (L.length+1) cap',bss++[bs1],r1,?_,?_⟩
  ·exact (OnlyAt.ofBelow _ HWQ.out).same r2
  ·exact fun x hx=>(r3 x hx).imp id (fun h=>Nat.le_trans HSZ.out h)
set_option maxRecDepth 100000 in
set_option maxHeartbeats 16000000 in
theorem sSearch6_any (d:QueryD) (db:List AtomD) (W:World) (vq vdb:Value) (B:Nat) (hq:RdQuery W vq d) (hdb:RdAtomS W vdb db) (hvar:∀x∈d.2,∀t∈x.2,t<20) :
  ∀(rest i:Nat),i+rest=d.2.length→∀(w:World) (vb:Value) (b:List Int) (ov:Value) (L:List (List Int)) (bss:List (List Nat)),Ints w vb b→(∀x∈blk vb,x≠B∧x∉blk ov)→b.length=40→PInv 24 W w B ov L bss→
   L.length+(searchN db (d.2.drop i) b).length≤1000000000→
   Calls Tryz.prog 153 #[vq,vdb,.int .i64 i,vb,.pointer (some ⟨B,0,none⟩)] w (GaveS 24 W B ov (L++searchN db (d.2.drop i) b) w):=by
 intro rest
 induction rest with
 |zero=>
  intro i hi w vb b ov L bss hb hbB hb40 hp hsz;have hd:d.2.drop i=[]:=List.drop_eq_nil_of_le (by omega);rw[hd] at hsz ⊢;exact sSearch6_end d db W vq vdb B hq hdb i (by omega) w vb b ov L bss hb hb40 hp hsz
 |succ rest ih=>
  intro i hi w vb b ov L bss hb hbB hb40 hp hsz;have hil:i<d.2.length:=by omega
  obtain⟨at0,hat⟩:∃e,d.2[i]?=some e:=⟨d.2[i]'hil,List.getElem?_eq_getElem hil⟩
  have hdrop:d.2.drop i=at0::d.2.drop (i+1):=by
   rw[List.drop_eq_getElem_cons hil]
   congr 1
   rw[List.getElem?_eq_getElem hil] at hat
   exact Option.some.inj hat
  rw[hdrop,searchN_cons] at hsz ⊢;have ih2:=ih (i+1) (by omega);rw[show (((i+1:Nat)):Int)=(i:Int)+1 from rfl] at ih2;have IH:=Lib.hid ih2;clear ih2;have HVAR:=Lib.hid (hvar at0 (List.mem_of_getElem? hat));have HLE:=Lib.hid (fun k=>hit_le db at0 (d.2.drop (i+1)) b k);have HNEXT:=Lib.hid (fun k f (h:db[k]?=some f)=>hit_next (a:=at0) (rest:=d.2.drop (i+1)) (b:=b) h);have HALL:Hid ((db.take db.length).flatMap (hitN db at0 (d.2.drop (i+1)) b)=db.flatMap (hitN db at0 (d.2.drop (i+1)) b)):=by unfold Hid;rw[List.take_length]
  have HHIT:Hid (∀f,hitN db at0 (d.2.drop (i+1)) b f=if f.1=at0.1∧f.2.length=at0.2.length then (match bindL at0.2 f.2 b with|some b'=>searchN db (d.2.drop (i+1)) b'|none=>[]) else []):=fun f=>rfl
  generalize hR:d.2.drop (i+1)=R at *;clear ih hvar hdrop hR;obtain⟨a0,n0,c0,a1,n1,c1q,rfl,_,hbody⟩:=hq;obtain⟨hbl,hbn,hbm,hbat⟩:=hbody.at
  obtain⟨da,dn,dc,rfl,hdb⟩:=hdb;obtain⟨hdl,hdn,hdm,hdcell⟩:=hdb.at
  unfold maxLen at hbm hdm;have hin1:i<n1:=by omega
  obtain⟨qb,qoff,rfl,hqw,hqc⟩:=hbat (by omega);obtain⟨ea,em,ec,qc0,qc1,hqi,hqints⟩:=atomAt (n:=n1) hqc i at0 hat
  have hWB:=hp.2.2.2.1;have hBw:=hp.2.2.2.2.1;have hbw:=hp.1.below;have hblt:=hp.1.blk_lt;have HDC:=Lib.hid hdcell;have HDL:=Lib.hid hdl;have HB:=Lib.hid hb;have HBB:=Lib.hid hbB;have HB4:=Lib.hid hb40;have HSZ:=Lib.hid hsz;have HP:=Lib.hid hp;have HQW:=Lib.hid hqw;have HQ0:=Lib.hid qc0;have HQ1:=Lib.hid qc1;have hem:=hqints.cases;obtain⟨_,_,_,heme,hem,_⟩:=hem
  cases heme;have HEM:=Lib.hid hem;clear hem;have HQI:=Lib.hid hqints;have HBL:=Lib.hid hblt;have HWB:=Lib.hid hWB;have HBW:=Lib.hid hBw;have HWS:=Lib.hid hbw.size;have hi1:¬((i:Int)=(n1:Int)):=by omega
  have hi0:(0:Int)≤i:=by omega
  have hi2:(i:Int)<n1:=by omega
  clear hbat
  clear hqc;clear hdcell;clear hdl;clear hb;clear hbB;clear hb40;clear hsz;clear hp;clear hqw;clear qc0;clear qc1;clear hqints;clear hblt;clear hWB;clear hBw;clear hbw;clear hat
  clear hi;clear hil;clear hbody;clear hdb;clear hbl;go_enter Tryz.func153,Tryz.ntmps153
  go_wp2_with fail
  obtain⟨wq,hwq⟩:∃x,x=w.alloc (.cells #[.slice a0 n0 c0,.slice (some ⟨qb,qoff,none⟩) n1 c1q] 29):=⟨_,rfl⟩
  have hb0:Below w.heap.size w wq:=by rw[hwq];exact below_alloc _ _
  have HB0:=Lib.hid hb0;have KX:Hid (wq.cell? ⟨w.heap.size,0,none⟩=some (.slice a0 n0 c0)):=by rw[hwq];unfold Hid;simp
  have KY:Hid (wq.cell? ⟨w.heap.size,1,none⟩=some (.slice (some ⟨qb,qoff,none⟩) n1 c1q)):=by rw[hwq];unfold Hid;simp
  have HPQ:=Lib.hid (HP.out.grow hb0);rw[←hwq];clear hwq hb0;have hie:((i:Int)==(n1:Int))=false:=beq_eq_false_iff_ne.2 hi1;simp only[hie]
  go_loopw [10] (fun iv wr=>∃k:Nat,k≤dn∧iv=.int .i64 k∧∃ov' bss',Hid (PInv 24 W wr B ov' (L++(db.take k).flatMap (hitN db at0 R b)) bss')∧Hid (OnlyAt (B::blk ov) wq wr)∧Hid (∀x∈blk ov',x∈blk ov∨wq.heap.size≤x)) (fun iv _=>dn-(intOf iv).toNat)
  case atStart=>exact⟨0,by omega,rfl,ov,bss,by simpa using HPQ,Lib.hid (OnlyAt.refl _ _),fun x hx=>.inl hx⟩
  case round=>
   obtain⟨k,hk,rfl,ov',bss',HPR,HOR,HVR⟩:=hrel;by_cases hlt:k<dn
   ·obtain⟨fb,foff,rfl,hfw,hfc⟩:=HDC.out (by omega);obtain⟨f,hf⟩:∃f,db[k]?=some f:=⟨db[k]'(by rw[HDL.out];exact hlt),List.getElem?_eq_getElem (by rw[HDL.out];exact hlt)⟩
    obtain⟨fa,fn,fcap,k0,k1,hfi,hfints⟩:=atomAt (n:=dn) hfc k f hf;have hww:=HPR.out.1.below;have q0:=cellk hww k0;have q1:=cellk hww k1
    have hne:w.heap.size∉B::blk ov:=by
     intro hm;rcases List.mem_cons.1 hm with h|h
     ·have:=HBW.out;omega
     ·have:=HBL.out _ h;omega
    have x0:=HOR.out.cell hne KX.out;have x1:=HOR.out.cell hne KY.out;have y0:=cellk hww HQ0.out;have y1:=cellk hww HQ1.out;obtain⟨_,_,_,hfe,hfl,_⟩:=hfints.cases
    cases hfe;have HNX:=Lib.hid (HNEXT.out k f hf);have HHF:=Lib.hid (HHIT.out f);have HLF:=Lib.hid (HLE.out (k+1));have HFI:=Lib.hid hfints;have HFL:=Lib.hid hfl;have hk0:(0:Int)≤k:=by omega
    have hk1:(k:Int)<dn:=by omega
    have HSKIP:Hid (¬(f.1=at0.1∧f.2.length=at0.2.length)→∀nd,∃ov' bss',Hid (PInv 24 W (World.drewN wr nd) B ov' (L++(db.take (k+1)).flatMap (hitN db at0 R b)) bss')∧Hid (OnlyAt (B::blk ov) wq (World.drewN wr nd))∧Hid (∀x∈blk ov',x∈blk ov∨wq.heap.size≤x)):=fun hn nd=>by
     refine⟨ov',bss',?_,?_,HVR⟩
     ·unfold Hid;rw[HNX.out,HHF.out,if_neg hn,List.append_nil];exact HPR.out.grow (drewN_below wr nd)
     ·exact HOR.out.same (OnlyAt.ofBelow _ (drewN_below wr nd))
    clear k0 k1 hfw hfc hf hfi hne hww hfints hfl;by_cases hr:f.1=at0.1
    ·by_cases hl:fn=em
     ·have hlen:f.2.length=at0.2.length:=by rw[HFL.out,HEM.out];exact hl
      have HH:Hid (hitN db at0 R b f=(match bindL at0.2 f.2 b with|some b'=>searchN db R b'|none=>[])):=by
       have h:=HHF.out;rw[if_pos ⟨hr,hlen⟩] at h;exact h
      have hl':((fn:Int) != (em:Int))=false:=by rw[hl];simp
      have hvb:Ints wr vb b:=(HB.out.below HB0.out).onlyAt HOR.out (fun b' off n c e hn hm=>by
       have hx:=HBB.out b' (by rw[e];simp[blk]);rcases List.mem_cons.1 hm with h|h
       ·exact hx.1 h
       ·exact hx.2 h)
      have hww:=HPR.out.1.below;have HCB:=Lib.hid (fun wc hb=>sBind6_any wc (.slice ea em ec) (.slice fa fn fcap) vb at0.2 f.2 b (HQI.out.below (bnext hww hb)) (HFI.out.below (bnext hww hb)) (hvb.below (w':=wc) hb) hlen HB4.out HVAR.out);have HLB:=Lib.hid (fun b' (h:bindL at0.2 f.2 b=some b')=>(bindL_len h).trans HB4.out)
      have hIH:=fun w2 vb2 b2 (h:bindL at0.2 f.2 b=some b2) (hb2:Below wr.heap.size wr w2) (h1:Ints w2 vb2 b2) (h2:∀x∈blk vb2,wr.heap.size≤x)=>IH.out w2 vb2 b2 ov' (L++(db.take k).flatMap (hitN db at0 R b)) bss' h1 (fun x hx=>⟨fun e=>by have:=h2 x hx;have:=HPR.out.2.2.2.2.1;omega,fun e=>by have:=h2 x hx;have:=HPR.out.1.blk_lt x e;omega⟩) (HLB.out b2 h) (HPR.out.grow hb2) (by
       have q:hitN db at0 R b f=searchN db R b2:=by rw[HH.out,h]
       have q2:=HLF.out;rw[HNX.out,q,List.length_append] at q2;have q3:=HSZ.out;rw[List.length_append];omega)
      have HIH:=Lib.hid hIH;rw[hr] at q0;clear hl HHF HSKIP hvb hww hIH hlen hr
      cases hbd:bindL at0.2 f.2 b with
      |none=>
       rw[hbd] at HCB HH
       have HDONE:Hid (∀wz,Below wr.heap.size wr wz→∃ov' bss',Hid (PInv 24 W wz B ov' (L++(db.take (k+1)).flatMap (hitN db at0 R b)) bss')∧Hid (OnlyAt (B::blk ov) wq wz)∧Hid (∀x∈blk ov',x∈blk ov∨wq.heap.size≤x)):=fun wz hz=>by
        refine⟨ov',bss',?_,?_,HVR⟩
        ·unfold Hid;rw[HNX.out,HH.out,List.append_nil];exact HPR.out.grow hz
        ·exact HOR.out.same (OnlyAt.ofBelow _ hz)
       generalize at0.1=ar at *;go_wp2_with fail
       go_quiet (fail)
       have hdn2:=drewN_below wr nq;have HDN:=Lib.hid hdn2;replace q0:=cellk hdn2 q0;replace q1:=cellk hdn2 q1;replace x0:=cellk hdn2 x0;replace x1:=cellk hdn2 x1;replace y0:=cellk hdn2 y0;replace y1:=cellk hdn2 y1;generalize World.drewN wr nq=wd at *;clear hdn2;go_wp2_with fail
       go_region_law (go_simp;go_at_call 180;refine (HCB.out _ (bnext HDN.out (Below.refl _ _).drew)).mono ?_;rintro e2 w2 ⟨ba,bn,bc,bsb,b',rfl,hob,hbe,hfb,hbb⟩;have HB2:=Lib.hid (bnext (bnext HDN.out (Below.refl wd.heap.size wd).drew) hbb);have HOB:=Lib.hid hob;have HFB:=Lib.hid (fun b hb=>Nat.le_trans (bnext HDN.out (Below.refl wd.heap.size wd).drew:Below wr.heap.size wr _).size (hfb.lo b hb));have z0:=cellk (bnext (Below.refl wd.heap.size wd).drew hbb) x0;have z1:=cellk (bnext (Below.refl wd.heap.size wd).drew hbb) x1;clear hob hfb hbb)
       all_goals (go_wp2_with fail)
       all_goals exact⟨⟨k+1,by omega,by simp,HDONE.out _ HB2.out⟩,by simp[intOf];omega⟩
      |some b2=>
       rw[hbd] at HCB HH;have HI2:=Lib.hid (fun w2 vb2=>HIH.out w2 vb2 b2 hbd);have HL40:Hid (0<b2.length):=by have:=HLB.out b2 hbd;unfold Hid;omega
       have HDONE:Hid (∀w2 w3,Below wr.heap.size wr w2→∀ov2 bss2,PInv 24 W w3 B ov2 (L++(db.take k).flatMap (hitN db at0 R b)++searchN db R b2) bss2→OnlyAt (B::blk ov') w2 w3→(∀x∈blk ov2,x∈blk ov'∨w2.heap.size≤x)→∃ov' bss',Hid (PInv 24 W w3 B ov' (L++(db.take (k+1)).flatMap (hitN db at0 R b)) bss')∧Hid (OnlyAt (B::blk ov) wq w3)∧Hid (∀x∈blk ov',x∈blk ov∨wq.heap.size≤x)):=fun w2 w3 hb2 ov2 bss2 h1 h2 h3=>by
        have hs1:=HOR.out.size;have hs2:=hb2.size;refine⟨ov2,bss2,?_,?_,?_⟩
        ·unfold Hid;rw[HNX.out,HH.out,←List.append_assoc];exact h1
        ·refine (HOR.out.same (OnlyAt.ofBelow _ hb2)).mixed h2 (fun x hx=>?_);rcases List.mem_cons.1 hx with h|h
         ·exact .inl (by simp[h])
         ·exact (HVR.out x h).imp (fun h=>List.mem_cons_of_mem _ h) id
        ·intro x hx;rcases h3 x hx with h|h
         ·exact HVR.out x h
         ·exact .inr (by omega)
       generalize at0.1=ar at *;go_wp2_with fail
       go_quiet (fail)
       have hdn2:=drewN_below wr nq;have HDN:=Lib.hid hdn2;replace q0:=cellk hdn2 q0;replace q1:=cellk hdn2 q1;replace x0:=cellk hdn2 x0;replace x1:=cellk hdn2 x1;replace y0:=cellk hdn2 y0;replace y1:=cellk hdn2 y1;generalize World.drewN wr nq=wd at *;clear hdn2;go_wp2_with fail
       go_region_law (go_simp;go_at_call 180;refine (HCB.out _ (bnext HDN.out (Below.refl _ _).drew)).mono ?_;rintro e2 w2 ⟨ba,bn,bc,bsb,b',rfl,hob,hbe,hfb,hbb⟩;have HB2:=Lib.hid (bnext (bnext HDN.out (Below.refl wd.heap.size wd).drew) hbb);have HOB:=Lib.hid hob;have HFB:=Lib.hid (fun b hb=>Nat.le_trans (bnext HDN.out (Below.refl wd.heap.size wd).drew:Below wr.heap.size wr _).size (hfb.lo b hb));have z0:=cellk (bnext (Below.refl wd.heap.size wd).drew hbb) x0;have z1:=cellk (bnext (Below.refl wd.heap.size wd).drew hbb) x1;obtain rfl:=hbe _ rfl;clear hob hfb hbb)
       all_goals (go_wp2_with fail)
       all_goals
        refine (HI2.out w2 (.slice ba bn bc) HB2.out HOB.out.1 (fun x hx=>HFB.out x (HOB.out.blk_of HL40.out x hx))).mono ?_;rintro e3 w3 ⟨rfl,ov2,bss2,hp2,ho2,hv2⟩;have HDN2:=Lib.hid (HDONE.out w2 w3 HB2.out ov2 bss2 hp2 ho2 hv2);clear hp2 ho2 hv2;go_wp2_with fail
        exact⟨⟨k+1,by omega,by simp,HDN2⟩,by simp[intOf];omega⟩
     ·have HS:=Lib.hid (HSKIP.out (fun h=>hl (by rw[←HFL.out,←HEM.out];exact h.2)));rw[hr] at q0;have hl':((fn:Int) != (em:Int))=true:=bne_iff_ne.2 (by omega);clear hl hr HHF HSKIP;generalize at0.1=ar at *;go_wp2_with fail
      go_quiet (fail)
      go_wp2_with fail
      exact⟨⟨k+1,by omega,by simp,HS.out _⟩,by simp[intOf];omega⟩
    ·have HS:=Lib.hid (HSKIP.out (fun h=>hr h.1));have hr':((f.1:Int) != at0.1)=true:=bne_iff_ne.2 hr;clear hr HHF HSKIP;generalize f.1=fr at *;generalize at0.1=ar at *;go_wp2_with fail
     go_quiet (fail)
     go_wp2_with fail
     exact⟨⟨k+1,by omega,by simp,HS.out _⟩,by simp[intOf];omega⟩
   ·obtain rfl:k=dn:=by omega
    go_wp2_with fail
    first|(refine bodyPost_ret (results_none rfl _ _ _) rfl ?_)|(refine bodyPost_end (results_none rfl _ _ _) rfl ?_)
    refine⟨rfl,ov',bss',?_,?_,?_⟩
    ·have h:=HPR.out;rw[←HDL.out,HALL.out] at h;exact h
    ·exact (OnlyAt.ofBelow _ HB0.out).same HOR.out
    ·exact fun x hx=>(HVR.out x hx).imp id (fun h=>Nat.le_trans HB0.out.size h)
theorem searchN_row (db:List AtomD) (al:List AtomD) (b:List Int):∀x∈searchN db al b,x.length≤20:=by
 induction al generalizing b with
 |nil=>intro x hx;simp[searchN] at hx;subst hx;rw[List.length_take];exact Nat.min_le_left _ _
 |cons a al ih=>
  intro x hx;rw[searchN_cons] at hx;obtain⟨f,_,hf⟩:=List.mem_flatMap.1 hx;unfold hitN at hf
  split at hf
  ·split at hf
   ·exact ih _ x hf
   ·cases hf
  ·cases hf
theorem OutII.rd {E:TypeId} {W w:World} {v:Value} {l:List (List Int)} {bss:List (List Nat)} (h:OutII E W w v l bss):RdIntSS w v l:=by
 obtain⟨bs,h1,h2⟩:=h.done;exact h1.rd
set_option maxRecDepth 100000 in
set_option maxHeartbeats 8000000 in
theorem sRaw6_any (w:World) (vq vdb:Value) (d:QueryD) (db:List AtomD) (hq:RdQuery w vq d) (hdb:RdAtomS w vdb db) (hvar:∀x∈d.2,∀t∈x.2,t<20) (hsz:(searchN db d.2 emptyB).length≤1000000000) :
  Calls Tryz.prog 111 #[vq,vdb] w (GaveO (fun w' v' bs=>ROIntSS w' v' (sortL (searchN db d.2 emptyB) true) bs) w):=by
 obtain⟨a0,n0,c0,a1,n1,c1,e,_⟩:=id hq;subst e;have HE:=Lib.hid sEmpty6_any;have HS:=Lib.hid (fun (w4:World) (vb ov:Value) bss (h1:Ints w4 vb emptyB) h2 h3=>sSearch6_any d db w (.agg #[.slice a0 n0 c0,.slice a1 n1 c1]) vdb (w.heap.size+2) hq hdb hvar d.2.length 0 (by omega) w4 vb emptyB ov [] bss h1 h2 (by simp[emptyB]) h3 (by simpa using hsz));have HST:=Lib.hid (fun w v h=>sSort6_any w v (searchN db d.2 emptyB) true h (fun x hx=>Nat.le_trans (searchN_row _ _ _ x hx) (by decide)) hsz);have HSZ:=Lib.hid hsz;clear hq hdb hvar hsz;go_enter Tryz.func111,Tryz.ntmps111
 go_wp2_with fail
 have hb1:Below w.heap.size w (w.alloc (.cells #[.slice a0 n0 c0,.slice a1 n1 c1] 29)):=below_alloc _ _;have e1:(w.alloc (.cells #[.slice a0 n0 c0,.slice a1 n1 c1] 29)).heap.size=w.heap.size+1:=by simp
 have k0:(w.alloc (.cells #[.slice a0 n0 c0,.slice a1 n1 c1] 29)).cell? ⟨w.heap.size,0,none⟩=some (.slice a0 n0 c0):=by simp
 have k1:(w.alloc (.cells #[.slice a0 n0 c0,.slice a1 n1 c1] 29)).cell? ⟨w.heap.size,1,none⟩=some (.slice a1 n1 c1):=by simp
 generalize w.alloc (.cells #[.slice a0 n0 c0,.slice a1 n1 c1] 29)=w1 at *;have hO:=OutII.lit 24 w w1 hb1;have hb2:=below_alloc w1 (.cells #[] 24);have e2:(w1.alloc (.cells #[] 24)).heap.size=w.heap.size+2:=by simp[e1]
 rw[e1] at hO;have k0':=cellk hb2 k0;have k1':=cellk hb2 k1;generalize w1.alloc (.cells #[] 24)=w2 at *;have hb3:=below_alloc w2 (.cells #[.slice (some ⟨w.heap.size+1,0,none⟩) 0 0] 44);have hO2:=hO.grow hb3;have kb:(w2.alloc (.cells #[.slice (some ⟨w.heap.size+1,0,none⟩) 0 0] 44)).cell? ⟨w.heap.size+2,0,none⟩=some (.slice (some ⟨w.heap.size+1,0,none⟩) 0 0):=by rw[←e2];simp
 have fb:(w2.alloc (.cells #[.slice (some ⟨w.heap.size+1,0,none⟩) 0 0] 44)).frozen? ⟨w.heap.size+2,0,none⟩=false:=by rw[←e2];simp
 have e3:(w2.alloc (.cells #[.slice (some ⟨w.heap.size+1,0,none⟩) 0 0] 44)).heap.size=w.heap.size+3:=by simp[e2]
 have k0'':=cellk hb3 k0';have k1'':=cellk hb3 k1';generalize w2.alloc (.cells #[.slice (some ⟨w.heap.size+1,0,none⟩) 0 0] 44)=w3 at *;have hP:PInv 24 w w3 (w.heap.size+2) (.slice (some ⟨w.heap.size+1,0,none⟩) 0 0) [] []:=⟨hO2,kb,fb,by omega,by omega,by simp[blk],by simp⟩;have HP:=Lib.hid hP;have HE3:=Lib.hid e3;clear hP hO2 hO hb3 hb2 hb1 k0 k1 k0' k1' kb fb e1 e2 e3
 go_region_law (first
  |(go_simp;go_at_call 154;refine (HE.out _).mono ?_;rintro e4 w4 ⟨vb,bsb,rfl,hob,hfb,hbb⟩;have HB4:=Lib.hid (bnext (Below.refl w3.heap.size w3).drew hbb);have HOB:=Lib.hid hob;have HFB:=Lib.hid (fun b hb=>Nat.le_trans (Below.refl w3.heap.size w3).drew.size (hfb.lo b hb));have k04:=cellk (bnext (Below.refl w3.heap.size w3).drew hbb) k0'';have k14:=cellk (bnext (Below.refl w3.heap.size w3).drew hbb) k1'';clear hob hfb hbb)
  |(go_simp;go_at_call 153;refine (HS.out w4 vb (.slice (some ⟨w.heap.size+1,0,none⟩) 0 0) [] HOB.out.1 (fun x hx=>by
    have h1:=HFB.out x (HOB.out.blk_of (by simp[emptyB]) x hx);have h2:=HE3.out;simp[blk];omega) (HP.out.grow HB4.out)).mono ?_;rintro e5 w5 ⟨rfl,ov',bss',hp,_,_⟩;have HP5:Hid (PInv 24 w w5 (w.heap.size+2) ov' (searchN db d.2 emptyB) bss'):=Lib.hid hp;have kb5:=hp.2.1;clear hp))
 all_goals (go_wp2_with fail)
 all_goals
  refine (HST.out w5 ov' HP5.out.1.rd).mono ?_;rintro e6 w6 ⟨v6,bs6,rfl,ho6,hf6,hb6⟩;have HO6:=Lib.hid ho6;have HF6:=Lib.hid hf6;have HB6:=Lib.hid (bnext HP5.out.1.below hb6);have HS6:=Lib.hid HP5.out.1.below.size;clear ho6 hf6 hb6;go_wp2_with fail
  go_ret;exact⟨_,bs6,rfl,HO6.out,HF6.out.wide HS6.out (Nat.le_refl _),HB6.out⟩
theorem flatMap_len {α β:Type} (l:List α) (g:α→List β) (m:Nat) (h:∀f,(g f).length≤m):(l.flatMap g).length≤l.length*m:=by
 induction l with
 |nil=>simp
 |cons a l ih=>
  rw[List.flatMap_cons,List.length_append,List.length_cons,Nat.succ_mul];have:=h a;omega
theorem searchN_len (db:List AtomD) (al:List AtomD) (b:List Int):(searchN db al b).length≤db.length ^ al.length:=by
 induction al generalizing b with
 |nil=>simp[searchN]
 |cons a al ih=>
  rw[searchN_cons,List.length_cons,Nat.pow_succ,Nat.mul_comm];refine flatMap_len _ _ _ (fun f=>?_);unfold hitN
  split
  ·split
   ·exact ih _
   ·simp
  ·simp
theorem fine_vars {s:List Int} {d:QueryD} {most:Int} (h:fineB s d most=true):∀x∈d.2,∀t∈x.2,t<20:=by
 unfold fineB at h;simp only[Bool.and_eq_true] at h;intro x hx t ht;have h1:=List.all_eq_true.1 h.2.2.2.1 x hx;unfold isAtomB at h1;simp only[Bool.and_eq_true] at h1;have h3:=h1.2;unfold termsB at h3;simp only[Bool.and_eq_true] at h3;have h2:=List.all_eq_true.1 h3.1 t ht;unfold termB varB conB at h2;simp at h2;omega
theorem fine_len {s:List Int} {d:QueryD} {most:Int} (h:fineB s d most=true):(d.2.length:Int)≤most:=by
 unfold fineB inB at h;simp only[Bool.and_eq_true,decide_eq_true_eq] at h;exact h.2.2.1.2
theorem db6_len {s:List Int} {l:List AtomD} (h:isDbB s l=true):l.length≤24:=by
 unfold isDbB at h;simp only[Bool.and_eq_true,decide_eq_true_eq] at h;exact h.2.2
theorem searchN_most {s:List Int} {d:QueryD} {db:List AtomD} (b:List Int) (h:fineB s d 4=true) (h2:isDbB s db=true):(searchN db d.2 b).length≤331776:=by
 have h3:=fine_len h;refine Nat.le_trans (searchN_len _ _ _) (Nat.le_trans (Nat.pow_le_pow_left (db6_len h2) _) ?_);exact Nat.le_trans (Nat.pow_le_pow_right (by decide) (by omega:d.2.length≤4)) (by decide)
def bindingsN (s:List Int) (d:QueryD) (db:List AtomD):List (List Int):=if fineB s d 4=true∧isDbB s db=true then sortL (searchN db d.2 emptyB) true else []
set_option maxRecDepth 100000 in
set_option maxHeartbeats 8000000 in
theorem sBindings_any (w:World) (vs vq vdb:Value) (s:List Int) (d:QueryD) (db:List AtomD) (hs:RdSchema w vs s) (hq:RdQuery w vq d) (hdb:RdAtomS w vdb db) (hsz:sizeAtomS d.2≤1048576) :
  Calls Tryz.prog 54 #[vs,vq,vdb] w (GaveO (fun w' v' bs=>ROIntSS w' v' (bindingsN s d db) bs) w):=by
 obtain⟨a0,n0,c0,a1,n1,c1,e,_⟩:=id hq;subst e;obtain⟨sa,sn,sc,e,_⟩:=id hs;subst e;have HQ:=Lib.hid (fun w' (hb:Below w.heap.size w w')=>sIsQuery_any w' _ _ s d (hs.below hb) (hq.below hb) hsz);have HD:=Lib.hid (fun w' (hb:Below w.heap.size w w')=>sIsDb_any w' _ _ s db (hs.below hb) (hdb.below hb));have HR:=Lib.hid (fun w' (hb:Below w.heap.size w w') (h1:fineB s d 4=true) (h2:isDbB s db=true)=>sRaw6_any w' _ _ d db (hq.below hb) (hdb.below hb) (fine_vars h1) (Nat.le_trans (searchN_most emptyB h1 h2) (by decide)));clear hs hq hdb hsz;go_enter Tryz.func54,Tryz.ntmps54
 go_wp2_with fail
 have hb2:Below w.heap.size w ((w.alloc (.cells #[.slice sa sn sc] 26)).alloc (.cells #[.slice a0 n0 c0,.slice a1 n1 c1] 29)):=((Below.refl _ _).alloc (Nat.le_refl _) _).alloc (by simp) _;have k0:((w.alloc (.cells #[.slice sa sn sc] 26)).alloc (.cells #[.slice a0 n0 c0,.slice a1 n1 c1] 29)).cell? ⟨w.heap.size,0,none⟩=some (.slice sa sn sc):=by simp
 have k1:((w.alloc (.cells #[.slice sa sn sc] 26)).alloc (.cells #[.slice a0 n0 c0,.slice a1 n1 c1] 29)).cell? ⟨w.heap.size+1,0,none⟩=some (.slice a0 n0 c0):=by simp
 have k2:((w.alloc (.cells #[.slice sa sn sc] 26)).alloc (.cells #[.slice a0 n0 c0,.slice a1 n1 c1] 29)).cell? ⟨w.heap.size+1,1,none⟩=some (.slice a1 n1 c1):=by simp
 generalize (w.alloc (.cells #[.slice sa sn sc] 26)).alloc (.cells #[.slice a0 n0 c0,.slice a1 n1 c1] 29)=w2 at *;refine (HQ.out _ hb2).mono ?_;rintro e w3 ⟨rfl,hb3⟩;have q0:=cellk hb3 k0;have q1:=cellk hb3 k1;have q2:=cellk hb3 k2;have hb3':=bnext hb2 hb3;have HB3:=Lib.hid hb3'
 have HNO:Hid (¬(fineB s d 4=true∧isDbB s db=true)→∀wz,Below w.heap.size w wz→GaveO (fun w' v' bs=>ROIntSS w' v' (bindingsN s d db) bs) w (.returned (.slice (some ⟨wz.heap.size,0,none⟩) 0 0)) (wz.alloc (.cells #[] 24))):=fun hn wz hz=>by
  have ho:=OutII.lit 24 w wz hz;obtain⟨bs,h1,h2⟩:=ho.done;refine⟨_,bs,rfl,?_,h2,ho.below⟩;unfold bindingsN;rw[if_neg hn];exact h1
 clear hb2 hb3 hb3' k0 k1 k2
 cases hf:fineB s d 4 with
 |false=>
  have HN:=Lib.hid (HNO.out (fun h=>by rw[hf] at h;exact Bool.noConfusion h.1));clear HNO HR HD HQ;go_wp2_with fail
  go_ret;exact HN.out _ HB3.out
 |true=>
  go_wp2_with fail
  refine (HD.out _ HB3.out).mono ?_;rintro e w4 ⟨rfl,hb4⟩;have q1':=cellk hb4 q1;have q2':=cellk hb4 q2;have HB4:=Lib.hid (bnext HB3.out hb4);clear hb4 q0 q1 q2
  cases hdb:isDbB s db with
  |false=>
   have HN:=Lib.hid (HNO.out (fun h=>by rw[hdb] at h;exact Bool.noConfusion h.2));clear HNO HR HD HQ;go_wp2_with fail
   go_ret;exact HN.out _ HB4.out
  |true=>
   have HR2:=Lib.hid (HR.out w4 HB4.out hf hdb);have HE:Hid (bindingsN s d db=sortL (searchN db d.2 emptyB) true):=if_pos ⟨hf,hdb⟩;clear HNO HR HD HQ;go_wp2_with fail
   refine HR2.out.mono ?_;rintro e w5 ⟨v5,bs5,rfl,ho5,hf5,hb5⟩;have HO5:=Lib.hid ho5;have HF5:=Lib.hid (hf5.wide HB4.out.size (Nat.le_refl _):Fresh w w5 bs5);have HB5:=Lib.hid (bnext HB4.out hb5);clear ho5 hf5 hb5;go_wp2_with fail
   go_ret;exact⟨_,bs5,rfl,by rw[HE.out];exact HO5.out,HF5.out,HB5.out⟩
end Go.Proofs.YtpedpbbiamhgdaaGreatDoor
