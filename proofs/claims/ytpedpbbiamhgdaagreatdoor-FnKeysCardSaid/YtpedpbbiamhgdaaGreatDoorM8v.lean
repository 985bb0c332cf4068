import Derived.Test.YtpedpbbiamhgdaaGreatDoorM8st
import Derived.Test.YtpedpbbiamhgdaaGreatDoorS7M
import Derived.Test.YtpedpbbiamhgdaaGreatDoorC8con
import Derived.Test.YtpedpbbiamhgdaaGreatDoorWints
import Derived.Test.YtpedpbbiamhgdaaGreatDoorS6all
import Derived.Test.YtpedpbbiamhgdaaGreatDoorI6dat
import Derived.Test.YtpedpbbiamhgdaaGreatDoorI6all
import Derived.Deep.DeepCutAuto
namespace Go.Proofs.YtpedpbbiamhgdaaGreatDoor
open Go Go.RowKit
set_option linter.unusedVariables false
theorem bstep8 {b b':List Int} {t v:Int} (h:b.length=40) (ht:t<20) (e:bindStep b t v=some b'):b'.length=40∧(∀k,k<20→Bd8 b k→Bd8 b' k∧b'.getD k 0=b.getD k 0)∧(t<0→-1-t=v)∧(0≤t→Bd8 b' t.toNat∧b'.getD t.toNat 0=v):=by
 unfold bindStep at e;by_cases h0:t<0
 ·rw[if_pos h0] at e
  split at e
  ·rename_i hv;cases e;exact⟨h,fun k _ hb=>⟨hb,rfl⟩,fun _=>hv,fun h1=>by omega⟩
  ·cases e
 ·rw[if_neg h0] at e;obtain⟨n,rfl⟩:=Int.eq_ofNat_of_zero_le (by omega:0≤t);simp only[Int.toNat_natCast] at e ⊢;have hn:n<20:=by omega
  by_cases hz:b.getD (20+n) 0=0
  ·rw[if_pos hz] at e
   cases e
   have G:∀j,((b.set n v).set (20+n) 1).getD j 0=if j=20+n then 1 else if j=n then v else b.getD j 0:=by
    intro j;have l1:n<b.length:=by rw[h];omega
    have l2:20+n<(b.set n v).length:=by rw[List.length_set,h];omega
    rw[getD_set8 _ _ _ _ l2,getD_set8 _ _ _ _ l1]
   refine⟨by simpa using h,fun k hk hb=>?_,fun h1=>by omega,fun _=>⟨?_,?_⟩⟩
   ·have hkn:k≠n:=fun e=>by subst e;exact hb hz
    unfold Bd8 at hb ⊢;rw[G,G,if_neg (by omega:¬k=20+n),if_neg hkn,if_neg (by omega:¬20+k=n)];refine⟨?_,rfl⟩
    split
    ·decide
    ·exact hb
   ·unfold Bd8;rw[G,if_pos rfl];decide
   ·rw[G,if_neg (by omega),if_pos rfl]
  ·rw[if_neg hz] at e
   split at e
   ·rename_i hv;cases e;exact⟨h,fun k _ hb=>⟨hb,rfl⟩,fun h1=>by omega,fun _=>⟨hz,hv⟩⟩
   ·cases e
theorem getD_at8 {l:List Int} {j:Nat} (h:j<l.length):l.getD j 0=l[j]:=by
 rw[List.getD_eq_getElem?_getD,List.getElem?_eq_getElem h];rfl
theorem bto8 {args vals b:List Int} (h:b.length=40) (ht:∀t∈args,t<20):∀(i:Nat) {b':List Int},i≤args.length→bindTo args vals b i=some b'→b'.length=40∧(∀k,k<20→Bd8 b k→Bd8 b' k∧b'.getD k 0=b.getD k 0)∧∀j,j<i→(args.getD j 0<0→-1-args.getD j 0=vals.getD j 0)∧(0≤args.getD j 0→Bd8 b' (args.getD j 0).toNat∧b'.getD (args.getD j 0).toNat 0=vals.getD j 0)
 |0,b',_,e=>by cases e;exact⟨h,fun k _ hb=>⟨hb,rfl⟩,fun j hj=>by omega⟩
 |i+1,b',hi,e=>by
  replace e:(bindTo args vals b i).bind (fun b'=>bindStep b' (args.getD i 0) (vals.getD i 0))=some b':=e
  cases e1:bindTo args vals b i with
  |none=>rw[e1] at e;cases e
  |some b1=>
   rw[e1] at e;replace e:bindStep b1 (args.getD i 0) (vals.getD i 0)=some b':=e;obtain⟨l1,k1,q1⟩:=bto8 h ht i (by omega) e1;have lt:∀j,j<args.length→args.getD j 0<20:=fun j hj=>by rw[getD_at8 hj];exact ht _ (List.getElem_mem hj)
   obtain⟨l2,k2,n2,p2⟩:=bstep8 l1 (lt i (by omega)) e;refine⟨l2,fun k hk hb=>?_,fun j hj=>?_⟩
   ·obtain⟨u1,u2⟩:=k1 k hk hb;obtain⟨w1,w2⟩:=k2 k hk u1;exact⟨w1,w2.trans u2⟩
   ·rcases Nat.lt_or_ge j i with hji|hji
    ·refine⟨(q1 j hji).1,fun h0=>?_⟩;obtain⟨u1,u2⟩:=(q1 j hji).2 h0;have:=lt j (by omega);obtain⟨w1,w2⟩:=k2 _ (by omega) u1;exact⟨w1,w2.trans u2⟩
    ·obtain rfl:j=i:=by omega
     exact⟨n2,p2⟩
theorem sound8 {db:List AtomD}:∀{rest:List AtomD} {b r:List Int},b.length=40→(∀a∈rest,∀t∈a.2,t<20)→r∈searchN db rest b→(∀k,k<20→Bd8 b k→r.getD k 0=b.getD k 0)∧∀a∈rest,(a.1,a.2.map (ev8 (fun k=>r.getD k 0)))∈db
 |[],b,r,h,_,hr=>by
  rw[List.mem_singleton.1 hr];refine⟨fun k hk _=>?_,fun a ha=>by cases ha⟩;rw[List.getD_eq_getElem?_getD,List.getElem?_take_of_lt hk,←List.getD_eq_getElem?_getD]
 |a::rest,b,r,h,ht,hr=>by
  rw[searchN_cons] at hr;obtain⟨f,hf,h1⟩:=List.mem_flatMap.1 hr;unfold hitN at h1
  split at h1
  ·rename_i hc
   cases e:bindL a.2 f.2 b with
   |none=>rw[e] at h1;cases h1
   |some b1=>
    rw[e] at h1;obtain⟨l1,k1,q1⟩:=bto8 h (ht a (List.mem_cons_self ..)) a.2.length (Nat.le_refl _) e;obtain⟨r1,r2⟩:=sound8 l1 (fun x hx=>ht x (List.mem_cons_of_mem _ hx)) h1;refine⟨fun k hk hb=>(r1 k hk (k1 k hk hb).1).trans (k1 k hk hb).2,fun x hx=>?_⟩;rcases List.mem_cons.1 hx with hxe|hx
    ·have key:a.2.map (ev8 fun k=>r.getD k 0)=f.2:=by
      refine List.ext_getElem (by simpa using hc.2.symm) (fun j j1 j2=>?_);have hj:j<a.2.length:=by simpa using j1
      obtain⟨n,p⟩:=q1 j hj;rw[getD_at8 hj,getD_at8 j2] at n p;rw[List.getElem_map];have hlt:=ht a (List.mem_cons_self ..) _ (List.getElem_mem hj);unfold ev8;by_cases h0:a.2[j]<0
      ·rw[if_pos h0];exact n h0
      ·rw[if_neg h0];obtain⟨u1,u2⟩:=p (by omega);exact (r1 _ (by omega) u1).trans u2
     rw[hxe,key,←hc.1];exact hf
    ·exact r2 x hx
  ·cases h1
theorem tup_ev8 (r head:List Int):tupL head r=head.map (ev8 (fun k=>r.getD k 0)):=List.map_congr_left (fun t _=>rfl)
theorem head_term8 {s:List Int} {d:QueryD} (h:fineB s d 4=true):∀x∈d.1,-80≤x∧x≤19:=fun x hx=>term_in (List.all_eq_true.1 (terms_all (frz_parts (fine_frz h)).1) x hx)
theorem body_term8 {s:List Int} {d:QueryD} (h:fineB s d 4=true):∀a∈d.2,∀x∈a.2,-80≤x∧x≤19:=fun a ha x hx=>term_in (List.all_eq_true.1 (terms_all ((frz_parts (fine_frz h)).2.2 a ha)) x hx)
theorem asgs_map8 {M l l':List Int} (hl:l.length=l'.length) (h:∀j,j<l.length→asg M (l.getD j 0) (l'.getD j 0)) {f g:Int→Int} (hf:∀t u,asg M t u→f t=g u):l.map f=l'.map g:=by
 refine List.ext_getElem (by simpa using hl) (fun j h1 h2=>?_);have j1:j<l.length:=by simpa using h1
 have j2:j<l'.length:=by simpa using h2
 have h3:=hf _ _ (h j j1);rw[getD_at8 j1,getD_at8 j2] at h3;rw[List.getElem_map,List.getElem_map];exact h3
theorem cont_sub8 {s t:List Int} {a b:QueryD} {db:List AtomD} (h:conB8 s a b=true) (ht:t∈answersN s a db):t∈answersN s b db:=by
 obtain⟨y,hy⟩:=Option.isSome_iff_exists.1 h;unfold fmN at hy
 split at hy
 ·rename_i hc
  rw[Bool.and_eq_true] at hc;obtain⟨hb,ha⟩:=hc;by_cases hdb:isDbB s db=true
  ·rw[ans_mem8 ha hdb] at ht;rw[ans_mem8 hb hdb];obtain⟨r,hr,rfl⟩:=ht;have hs:=(sound8 (by simp[emptyB]) (fine_vars ha) hr).2;have hF:Full y b a:=findN_ok (fun x hx=>by have:=head_term8 hb x hx;omega) (fine_vars hb) (fun x hx=>by have:=head_term8 ha x hx;omega) (fun c hc x hx=>by have:=body_term8 ha c hc x hx;omega) hy
   have key:∀t u,asg y t u→ev8 (fun k=>ev8 (fun k=>r.getD k 0) (y.getD k 0)) t=ev8 (fun k=>r.getD k 0) u:=by
    rintro t u (⟨h1,rfl⟩|⟨k,rfl,h2,h3,h4⟩)
    ·unfold ev8;rw[if_pos h1,if_pos h1]
    ·rw[ev8,if_neg (by omega)];show ev8 (fun k=>r.getD k 0) (y.getD ((k:Int).toNat) 0)=_;rw[Int.toNat_natCast,h3]
   obtain⟨r',hr',e⟩:=search_tup8 (β:=fun k=>ev8 (fun k=>r.getD k 0) (y.getD k 0)) (db:=db) hb (fun x hx=>by
    obtain⟨z,hz,e1,e2,e3⟩:=hF.body x hx;rw[asgs_map8 e2 e3 key,e1];exact hs z hz)
   refine⟨r',hr',e.trans ?_⟩;rw[tup_ev8];exact asgs_map8 hF.hlen hF.head key
  ·exfalso;unfold answersN bindingsN at ht;rw[if_neg (fun e=>hdb e.2),(sortL_once _).2] at ht;simp at ht
 ·cases hy
def frzM (r:List Int):List Int:=(List.range 20).map (fun k:Nat=>ter8 (r.getD k 0))
theorem frzM_at {r:List Int} {k:Nat} (h:k<20):(frzM r).getD k 0=ter8 (r.getD k 0):=by
 unfold frzM;rw[List.getD_eq_getElem?_getD,List.getElem?_map,List.getElem?_range h];rfl
theorem grows_frzM (r:List Int):Grows (List.replicate 20 (-1000)) (frzM r):=by
 refine⟨by simp[frzM],fun k hk=>?_⟩;rcases Nat.lt_or_ge k 20 with h|h
 ·exact absurd (by rw[List.getD_eq_getElem?_getD,List.getElem?_replicate,if_pos h];rfl) hk
 ·rw[List.getD_eq_getElem?_getD,List.getD_eq_getElem?_getD,List.getElem?_eq_none (by simp[frzM];omega),List.getElem?_eq_none (by simpa using h)]
theorem asg_frzM {r:List Int} {t u:Int} (ht:-80≤t∧t≤19) (hu:-80≤u∧u≤19) (e:ev8 (fun k=>r.getD k 0) t=val8 u):asg (frzM r) t u:=by
 unfold ev8 at e;by_cases h0:t<0
 ·rw[if_pos h0] at e;unfold val8 at e
  split at e
  ·exact .inl ⟨h0,by omega⟩
  ·omega
 ·rw[if_neg h0] at e;obtain⟨k,rfl⟩:=Int.eq_ofNat_of_zero_le (by omega:0≤t);replace e:r.getD k 0=val8 u:=e;refine .inr ⟨k,rfl,by simp[frzM];omega,?_,by omega⟩;rw[frzM_at (by omega),e];unfold val8 ter8
  split<;>split<;>omega
theorem asgs_frzM {r l l':List Int} (hl:∀x∈l,-80≤x∧x≤19) (hl':∀x∈l',-80≤x∧x≤19) (e:l.map (ev8 (fun k=>r.getD k 0))=l'.map val8):l.length=l'.length∧∀j,j<l.length→asg (frzM r) (l.getD j 0) (l'.getD j 0):=by
 have hlen:l.length=l'.length:=by simpa using congrArg List.length e
 refine⟨hlen,fun j hj=>?_⟩;have hj':j<l'.length:=by omega
 rw[getD_at8 hj,getD_at8 hj'];refine asg_frzM (hl _ (List.getElem_mem hj)) (hl' _ (List.getElem_mem hj')) ?_;have:=congrArg (fun m=>m[j]?) e;simpa[List.getElem?_map,List.getElem?_eq_getElem hj,List.getElem?_eq_getElem hj'] using this
theorem ce_con8 {s:List Int} {a b:QueryD} (ha:fineB s a 4=true) (hb:fineB s b 4=true) (h:frzHd a∈answersN s b (frzDb a)):conB8 s a b=true:=by
 rw[ans_mem8 hb (frz_db ha)] at h;obtain⟨r,hr,e⟩:=h;have hok:=fine_frz ha;rw[tup_ev8,frzHd_yes hok] at e;have hs:=(sound8 (by simp[emptyB]) (fine_vars hb) hr).2;obtain⟨f1,f2,f3⟩:=frzTo_ok a.2 a.2.length (Nat.le_refl _);obtain⟨hlen,hd⟩:=asgs_frzM (head_term8 hb) (head_term8 ha) e;obtain⟨u1,u2⟩:=uniTo_in (m:=List.replicate 20 (-1000)) (H:=frzM r) (f:=b.1) (t:=a.1) (by simp) (grows_frzM r) b.1.length hd
 obtain⟨y,hy⟩:=srch_some (B:=a.2) (H:=frzM r) (F:=b.2) (m:=(uniF (List.replicate 20 (-1000)) b.1 a.1).1) ((uniTo_len _ _ _ _).trans (by simp)) u2 (fun x hx=>by
  have h1:=hs x hx;rw[frzDb_yes hok,f2] at h1;obtain⟨z,hz,hez⟩:=h1;rw[List.take_length] at hz;have e1:(fct8 z).1=x.1:=by rw[hez]
  have e2:(fct8 z).2=x.2.map (ev8 (fun k=>r.getD k 0)):=by rw[hez]
  obtain⟨m1,m2⟩:=asgs_frzM (body_term8 hb x hx) (body_term8 ha z hz) e2.symm;exact⟨z,hz,e1.symm,m1,m2⟩)
 unfold conB8 fmN;rw[if_pos (by rw[hb,ha];rfl)];unfold findN;rw[if_pos ⟨hlen,u1⟩,hy];rfl
end Go.Proofs.YtpedpbbiamhgdaaGreatDoor
namespace Go.Proofs.YtpedpbbiamhgdaaGreatDoor
open Go Go.Sort Go.RowKit
set_option linter.unusedVariables false
set_option maxHeartbeats 4000000 in
theorem wHas_any (w:World) (v vx:Value) (l:List (List Int)) (x:List Int) (h:RdIntSS w v l) (hx:Ints w vx x) :
  Calls Tryz.prog 59 #[v,vx] w (GaveBool w (decide (x∈l))):=by
 obtain⟨a,n,c,rfl,h⟩:=h;obtain⟨xa,xc,rfl⟩:=hx.form;obtain⟨hl,hn,hm,hcell⟩:=h.at
 unfold maxLen at hm;have HC:=Lib.hid hcell;have HL:=Lib.hid hl;have HX:=Lib.hid hx;have hEq:=Lib.hid (fun w v v' l l' a b=>wInts_any w v v' l l' a b);generalize x.length=xn at *;clear h hcell hl hx;go_enter Tryz.func59,Tryz.ntmps59
 go_wp2_with fail
 go_loopw [5] (fun iv wr=>∃i:Nat,i≤n∧iv=.int .i64 i∧Below w.heap.size w wr∧Hid (∀(j:Nat) (y:List Int),j<i→l[j]?=some y→y≠x)) (fun iv _=>n-(intOf iv).toNat)
 case atStart=>exact⟨0,by omega,rfl,Below.refl _ _,fun j y hj=>by omega⟩
 case round=>
  obtain⟨i,hi,rfl,hb,HE⟩:=hrel;have HB:=Lib.hid hb;by_cases hlt:i<n
  ·obtain⟨b,off,rfl,hbw,hc⟩:=HC.out (by omega);obtain⟨d,hd⟩:∃d,l[i]?=some d:=⟨l[i]'(by rw[HL.out];exact hlt),List.getElem?_eq_getElem (by rw[HL.out];exact hlt)⟩
   obtain⟨ea,em,ec,c1,hints⟩:=intsAt (n:=n) hc i d hd;have k1:=cellk hb c1;have HD:=Lib.hid hd;have hi0:(0:Int)≤i:=by omega
   have hi1:(i:Int)<n:=by omega
   have hcall:=Lib.hid (hEq.out wr (.slice ea em ec) (.slice xa xn xc) d x (hints.below hb) (HX.out.below hb));clear hc hbw hb hd hints c1;by_cases heq:d=x
   ·have HQ:Hid (decide (x∈l)=true):=decide_eq_true (by rw[←heq];exact List.mem_of_getElem? HD.out);rw[decide_eq_true heq] at hcall;clear heq;go_wp2_with fail
    refine hcall.out.mono ?_;rintro e w1 ⟨rfl,hb⟩;have HB1:=Lib.hid (bnext HB.out hb);clear hb k1;go_wp2_with fail
    go_ret;exact⟨ret_b HQ.out.symm,HB1.out⟩
   ·have HQ:=Lib.hid heq;rw[decide_eq_false heq] at hcall;clear heq;go_wp2_with fail
    refine hcall.out.mono ?_;rintro e w1 ⟨rfl,hb⟩;have HB1:=Lib.hid (bnext HB.out hb);clear hb k1;go_wp2_with fail
    refine⟨⟨i+1,by omega,by simp,HB1.out,fun j y hj h5=>?_⟩,by simp[intOf];omega⟩;rcases Nat.lt_or_ge j i with h7|h7
    ·exact HE.out j y h7 h5
    ·obtain rfl:j=i:=by omega
     rw[HD.out] at h5;cases h5;exact HQ.out
  ·obtain rfl:i=n:=by omega
   have HQ:Hid (decide (x∈l)=false):=decide_eq_false (fun hmem=>by
    obtain⟨j,hj⟩:=List.mem_iff_getElem?.1 hmem;exact HE.out j x (by rw[←HL.out];exact (List.getElem?_eq_some_iff.1 hj).1) hj rfl)
   clear hb;go_wp2_with fail
   go_ret;exact⟨ret_b HQ.out.symm,HB.out⟩
set_option maxHeartbeats 4000000 in
theorem wWithin_any (w:World) (v v':Value) (l l':List (List Int)) (h:RdIntSS w v l) (h':RdIntSS w v' l') :
  Calls Tryz.prog 22 #[v,v'] w (GaveBool w (decide (∀x∈l,x∈l'))):=by
 have HX:=Lib.hid h';obtain⟨a,n,c,rfl,h⟩:=h;obtain⟨xa,xn,xc,rfl,_⟩:=h';obtain⟨hl,hn,hm,hcell⟩:=h.at
 unfold maxLen at hm;have HC:=Lib.hid hcell;have HL:=Lib.hid hl;have hEq:=Lib.hid (fun w v vx l x h hx=>wHas_any w v vx l x h hx);clear h hcell hl;go_enter Tryz.func22,Tryz.ntmps22
 go_wp2_with fail
 go_loopw [5] (fun iv wr=>∃i:Nat,i≤n∧iv=.int .i64 i∧Below w.heap.size w wr∧Hid (∀(j:Nat) (y:List Int),j<i→l[j]?=some y→y∈l')) (fun iv _=>n-(intOf iv).toNat)
 case atStart=>exact⟨0,by omega,rfl,Below.refl _ _,fun j y hj=>by omega⟩
 case round=>
  obtain⟨i,hi,rfl,hb,HE⟩:=hrel;have HB:=Lib.hid hb;by_cases hlt:i<n
  ·obtain⟨b,off,rfl,hbw,hc⟩:=HC.out (by omega);obtain⟨d,hd⟩:∃d,l[i]?=some d:=⟨l[i]'(by rw[HL.out];exact hlt),List.getElem?_eq_getElem (by rw[HL.out];exact hlt)⟩
   obtain⟨ea,em,ec,c1,hints⟩:=intsAt (n:=n) hc i d hd;have k1:=cellk hb c1;have HD:=Lib.hid hd;have hi0:(0:Int)≤i:=by omega
   have hi1:(i:Int)<n:=by omega
   have hcall:=Lib.hid (hEq.out wr (.slice xa xn xc) (.slice ea em ec) l' d (RdIntSS.below HX.out hb) (hints.below hb));clear hc hbw hb hd hints c1;by_cases heq:d∈l'
   ·have HQ:=Lib.hid heq;rw[decide_eq_true heq] at hcall;clear heq;go_wp2_with fail
    refine hcall.out.mono ?_;rintro e w1 ⟨rfl,hb⟩;have HB1:=Lib.hid (bnext HB.out hb);clear hb k1;go_wp2_with fail
    refine⟨⟨i+1,by omega,by simp,HB1.out,fun j y hj h5=>?_⟩,by simp[intOf];omega⟩;rcases Nat.lt_or_ge j i with h7|h7
    ·exact HE.out j y h7 h5
    ·obtain rfl:j=i:=by omega
     rw[HD.out] at h5;cases h5;exact HQ.out
   ·have HQ:Hid (decide (∀x∈l,x∈l')=false):=decide_eq_false (fun h=>heq (h d (List.mem_of_getElem? HD.out)));rw[decide_eq_false heq] at hcall;clear heq;go_wp2_with fail
    refine hcall.out.mono ?_;rintro e w1 ⟨rfl,hb⟩;have HB1:=Lib.hid (bnext HB.out hb);clear hb k1;go_wp2_with fail
    go_ret;exact⟨ret_b HQ.out.symm,HB1.out⟩
  ·obtain rfl:i=n:=by omega
   have HQ:Hid (decide (∀x∈l,x∈l')=true):=decide_eq_true (fun x hmem=>by
    obtain⟨j,hj⟩:=List.mem_iff_getElem?.1 hmem;exact HE.out j x (by rw[←HL.out];exact (List.getElem?_eq_some_iff.1 hj).1) hj)
   clear hb;go_wp2_with fail
   go_ret;exact⟨ret_b HQ.out.symm,HB.out⟩
theorem bigC_any (w:World) (a:Option Addr) (len cap:Nat) :
  Calls Tryz.prog 7 #[.slice a len cap] w (fun e w'=>e=.returned (.bool (decide ((1048576:Int)<(len:Int))))∧w'=w):=by
 go_enter Tryz.func7,Tryz.ntmps7
 go_wp2_with fail
 go_ret;exact⟨rfl,rfl⟩
end Go.Proofs.YtpedpbbiamhgdaaGreatDoor
