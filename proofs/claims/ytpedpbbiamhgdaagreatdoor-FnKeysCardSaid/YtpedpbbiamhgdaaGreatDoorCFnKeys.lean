import Derived.Test.YtpedpbbiamhgdaaGreatDoorK13x
import Derived.Test.YtpedpbbiamhgdaaGreatDoorI13x
import Derived.Test.YtpedpbbiamhgdaaGreatDoorI6same
import Derived.Test.YtpedpbbiamhgdaaGreatDoorSqeq
import Derived.Deep.DeepCutAuto
namespace Go.Proofs.YtpedpbbiamhgdaaGreatDoor
open Go Go.Sort Go.RowKit
set_option linter.unusedVariables false
set_option linter.unusedSimpArgs false
theorem answers_len13 (s:List Int) (d:QueryD) (db:List AtomD):(answersN s d db).length≤331776:=by
 have h1:=List.Nodup.length_le_of_subset (sortL_once ((bindingsN s d db).map (tupL d.1))).1.nodup (fun y hy=>((sortL_once _).2 y).1 hy);rw[List.length_map] at h1;have h2:=bindings_len s d db;unfold answersN;omega
theorem answers_same13 {s:List Int} {x d:QueryD} {db:List AtomD} (h:∀t,t∈answersN s x db↔t∈answersN s d db):answersN s x db=answersN s d db:=strict_unique (sortL_once _).1 (sortL_once _).1 h
set_option maxRecDepth 100000 in
set_option maxHeartbeats 16000000 in
theorem core_FnKeys (w:World) (hE:EnvE w) (ca:Option Addr) (len cap:Nat) (hA:Arg w (.slice ca len cap) len) :
  Calls Tryz.prog 3 #[.slice ca len cap] w (GaveBool w true):=by
 have hbg:=Lib.hid (fun w=>bigC_any w ca len cap);have HA:=Lib.hid hA;have HE:=Lib.hid hE;by_cases hbig:(1048576:Int)<(len:Int)
 ·rw[decide_eq_true hbig] at hbg;clear hA hbig hE;go_enter Tryz.func3,Tryz.ntmps3
  go_wp2_with fail
  refine (hbg.out w).mono ?_;rintro e w1 ⟨rfl,rfl⟩;go_wp2_with fail
  go_ret;exact⟨rfl,Below.refl _ _⟩
 rw[decide_eq_false hbig] at hbg;have hd1:=Lib.hid (fun w h=>drawContUnder_any w (.slice ca len cap) len h);have hd2:=Lib.hid (fun w h=>drawAnswers_any w (.slice ca len cap) len h);have hsi:=Lib.hid (fun w v v' l l' h h'=>wWithin_any w v v' l l' h h');clear hA hbig hE;go_enter Tryz.func3,Tryz.ntmps3
 go_wp2_with fail
 refine (hbg.out w).mono ?_;rintro e w1 ⟨rfl,rfl⟩;go_wp2_with fail
 refine (hd1.out _ HA.out).mono ?_;rintro e w2 ⟨sv,s,q1,a,q2,b,kv,ks,rfl,hs,hs5,hq1,hqa,hq2,hqb,hk,hk3,hkz,hb2⟩;have HS2:=Lib.hid hs;have HA2:=Lib.hid hq1;have HB2:=Lib.hid hq2;have HK2:=Lib.hid hk;obtain⟨xa,xn,xc,rfl,_⟩:=hs;obtain⟨aa,an,ac,ba,bn,bc,rfl,_⟩:=hq1;obtain⟨ya,yn,yc,za,zn,zc,rfl,_⟩:=hq2;obtain⟨ka,kn,kc,rfl,_⟩:=hk;have HZA:Hid (sizeQuery a≤1048576∧sizeAtomS a.2≤1048576∧a.1.length≤1048576):=by have h1:=hqa.size;have h2:=hqa.1;exact Lib.hid (by unfold sizeQuery;omega)
 have HZB:Hid (sizeQuery b≤1048576∧sizeAtomS b.2≤1048576∧b.1.length≤1048576):=by have h1:=hqb.size;have h2:=hqb.1;exact Lib.hid (by unfold sizeQuery;omega)
 obtain⟨w3,hw3⟩:∃x,x=(((w2.alloc (.cells #[.slice xa xn xc] 26)).alloc (.cells #[.slice aa an ac,.slice ba bn bc] 29)).alloc (.cells #[.slice ya yn yc,.slice za zn zc] 29)):=⟨_,rfl⟩
 have hbb:Below w2.heap.size w2 w3:=by rw[hw3];exact (((Below.refl _ _).alloc (Nat.le_refl _) _).alloc (by simp) _).alloc (by simp;omega) _
 obtain⟨f1,hf1⟩:∃r,r=w2.heap.size:=⟨_,rfl⟩
 obtain⟨f2,hf2⟩:∃r,r=w2.heap.size+1:=⟨_,rfl⟩
 obtain⟨f3,hf3⟩:∃r,r=w2.heap.size+1+1:=⟨_,rfl⟩
 have c1:w3.cell? ⟨f1,0,none⟩=some (.slice xa xn xc):=by rw[hw3,hf1];exact box1 w2 _ _ _ _ 0 _ rfl
 have c2:w3.cell? ⟨f2,0,none⟩=some (.slice aa an ac):=by rw[hw3,hf2];exact box2 w2 _ _ _ _ 0 _ rfl
 have c3:w3.cell? ⟨f2,1,none⟩=some (.slice ba bn bc):=by rw[hw3,hf2];exact box2 w2 _ _ _ _ 1 _ rfl
 have c4:w3.cell? ⟨f3,0,none⟩=some (.slice ya yn yc):=by rw[hw3,hf3];exact box3 w2 _ _ _ _ 0 _ rfl
 have c5:w3.cell? ⟨f3,1,none⟩=some (.slice za zn zc):=by rw[hw3,hf3];exact box3 w2 _ _ _ _ 1 _ rfl
 have HB3:=Lib.hid (bnext hb2 hbb);have HCL:=Lib.hid (fun W (hb:Below w3.heap.size w3 W)=>(⟨cellk hb c1,cellk hb c2,cellk hb c3,cellk hb c4,cellk hb c5⟩:W.cell? ⟨f1,0,none⟩=some (.slice xa xn xc)∧W.cell? ⟨f2,0,none⟩=some (.slice aa an ac)∧W.cell? ⟨f2,1,none⟩=some (.slice ba bn bc)∧W.cell? ⟨f3,0,none⟩=some (.slice ya yn yc)∧W.cell? ⟨f3,1,none⟩=some (.slice za zn zc)));have RE:=Lib.hid (fun W (hb:Below w3.heap.size w3 W)=>HE.out.below (bnext HB3.out hb));have RS:=Lib.hid (fun W (hb:Below w3.heap.size w3 W)=>RdSchema.below HS2.out (bnext hbb hb));have RA:=Lib.hid (fun W (hb:Below w3.heap.size w3 W)=>RdQuery.below HA2.out (bnext hbb hb));have RB:=Lib.hid (fun W (hb:Below w3.heap.size w3 W)=>RdQuery.below HB2.out (bnext hbb hb));have RK:=Lib.hid (fun W (hb:Below w3.heap.size w3 W)=>RdAtomS.below HK2.out (bnext hbb hb));have ICU:=Lib.hid (fun W (hb:Below w3.heap.size w3 W)=>iContUnder_any W _ _ _ _ s a b ks (RE.out W hb) (RS.out W hb) (RA.out W hb) (RB.out W hb) (RK.out W hb) HZA.out.1 HZB.out.1);have ICV:=Lib.hid (fun W (hb:Below w3.heap.size w3 W)=>iContUnder_any W _ _ _ _ s b a ks (RE.out W hb) (RS.out W hb) (RB.out W hb) (RA.out W hb) (RK.out W hb) HZB.out.1 HZA.out.1);have SCU:=Lib.hid (fun W (hb:Below w3.heap.size w3 W)=>sContUnder_any W _ _ _ _ s a b ks (RS.out W hb) (RA.out W hb) (RB.out W hb) (RK.out W hb) HZA.out.1 HZB.out.1);have IEU:=Lib.hid (fun W (hb:Below w3.heap.size w3 W)=>iEquivUnder_any W _ _ _ _ s a b ks (RE.out W hb) (RS.out W hb) (RA.out W hb) (RB.out W hb) (RK.out W hb) HZA.out.1 HZB.out.1);have ICO:=Lib.hid (fun W (hb:Below w3.heap.size w3 W)=>iContained_any W _ _ _ s a b (RS.out W hb) (RA.out W hb) (RB.out W hb) HZA.out.2.1 HZB.out.2.1);have SAK:=Lib.hid (fun W (hb:Below w3.heap.size w3 W)=>sAreKeys_any W _ _ s ks (RS.out W hb) (RK.out W hb));have ICK:=Lib.hid (fun W (hb:Below w3.heap.size w3 W)=>iChaseKeys_any W _ _ _ s a ks (RE.out W hb) (RS.out W hb) (RA.out W hb) (RK.out W hb) HZA.out.1);have SCK:=Lib.hid (fun W (hb:Below w3.heap.size w3 W)=>sChaseKeys_any W _ _ _ s a ks (RS.out W hb) (RA.out W hb) (RK.out W hb) HZA.out.1);have SAA:=Lib.hid (fun W vd db (hb:Below w3.heap.size w3 W) (hd:RdAtomS W vd db)=>sAnswers_any W _ _ vd s a db (RS.out W hb) (RA.out W hb) hd HZA.out.2.1 HZA.out.2.2);have SAB:=Lib.hid (fun W vd db (hb:Below w3.heap.size w3 W) (hd:RdAtomS W vd db)=>sAnswers_any W _ _ vd s b db (RS.out W hb) (RB.out W hb) hd HZB.out.2.1 HZB.out.2.2);have SIQ:=Lib.hid (fun W (hb:Below w3.heap.size w3 W)=>sIsQuery_any W _ _ s a (RS.out W hb) (RA.out W hb) HZA.out.2.1);obtain⟨cu,hcu⟩:∃x,cuB s a b ks=x:=⟨_,rfl⟩
 obtain⟨cv,hcv⟩:∃x,cuB s b a ks=x:=⟨_,rfl⟩
 obtain⟨cc,hcc⟩:∃x,conB8 s a b=x:=⟨_,rfl⟩
 obtain⟨ak,hak⟩:∃x,areKeysB s ks=x:=⟨_,rfl⟩
 have hcca:cc=true→ak=true→cu=true:=fun h1 h2=>by rw[←hcu];exact con_cu (by rw[hcc];exact h1) (by rw[hak];exact h2)
 have hcuak:cu=true→ak=true:=fun h=>by rw[←hak];exact (cu_parts (by rw[hcu];exact h)).2.2.1
 have HCU:=Lib.hid hcu;have HAK:=Lib.hid hak;rw[hcu] at ICU SCU IEU;rw[hcv] at ICV IEU;rw[hcc] at ICO;rw[hak] at SAK;have HCCA:=Lib.hid hcca;have HCUAK:=Lib.hid hcuak;have HW3:=Lib.hid hw3;have HF1:=Lib.hid hf1;have HF2:=Lib.hid hf2;have HF3:=Lib.hid hf3;clear hb2 hbb hs5 hqa hqb hk3 hkz hw3 hf1 hf2 hf3 hcu hcv hcc hak hcca hcuak;go_wp2_with fail
 rw[←HF3.out,←HF2.out,←HF1.out,←HW3.out];clear HF1 HF2 HF3 HW3;refine (ICU.out w3 (Below.refl _ _)).mono ?_;rintro e w4 ⟨rfl,hb⟩;have HB4:=Lib.hid hb;clear c1 c2 c3 c4 c5 hb;obtain⟨c1,c2,c3,c4,c5⟩:=HCL.out _ HB4.out;go_upto_region 5 with fail
 go_cut [68] (fun q68 wx=>q68=.bool false∧Below w3.heap.size w3 wx)
 case first=>
  cases cu with
  |false=>
   go_wp2_with fail
   refine (SCU.out _ HB4.out).mono ?_;rintro e wk4 ⟨rfl,hb⟩;have HC4:=Lib.hid (bnext HB4.out hb);clear hb c1 c2 c3 c4 c5;obtain⟨c1,c2,c3,c4,c5⟩:=HCL.out _ HC4.out;go_wp2_with fail
   refine (IEU.out _ HC4.out).mono ?_;rintro e wk5 ⟨rfl,hb⟩;have HC5:=Lib.hid (bnext HC4.out hb);clear hb c1 c2 c3 c4 c5;obtain⟨c1,c2,c3,c4,c5⟩:=HCL.out _ HC5.out
   cases cc with
   |false=>
    go_wp2_with fail
    refine (ICO.out _ HC5.out).mono ?_;rintro e wk6 ⟨rfl,hb⟩;have HC6:=Lib.hid (bnext HC5.out hb);clear hb c1 c2 c3 c4 c5;obtain⟨c1,c2,c3,c4,c5⟩:=HCL.out _ HC6.out;go_wp2_with fail
    go_meet
    exact⟨rfl,HC6.out⟩
   |true=>
    have hak0:ak=false:=by
     cases ak with
     |false=>rfl
     |true=>exact absurd (HCCA.out rfl rfl) (by simp)
    subst hak0;go_wp2_with fail
    refine (ICO.out _ HC5.out).mono ?_;rintro e wk7 ⟨rfl,hb⟩;have HC7:=Lib.hid (bnext HC5.out hb);clear hb c1 c2 c3 c4 c5;obtain⟨c1,c2,c3,c4,c5⟩:=HCL.out _ HC7.out;go_wp2_with fail
    refine (SAK.out _ HC7.out).mono ?_;rintro e wk8 ⟨rfl,hb⟩;have HC8:=Lib.hid (bnext HC7.out hb);clear hb c1 c2 c3 c4 c5;obtain⟨c1,c2,c3,c4,c5⟩:=HCL.out _ HC8.out;go_wp2_with fail
    go_meet
    exact⟨rfl,HC8.out⟩
  |true=>
   have hak0:ak=true:=HCUAK.out rfl;subst hak0
   cases cv
   all_goals cases cc
   ·go_wp2_with fail
    refine (SCU.out _ HB4.out).mono ?_;rintro e wk20 ⟨rfl,hb⟩;have HC20:=Lib.hid (bnext HB4.out hb);clear hb c1 c2 c3 c4 c5;obtain⟨c1,c2,c3,c4,c5⟩:=HCL.out _ HC20.out;go_wp2_with fail
    refine (IEU.out _ HC20.out).mono ?_;rintro e wk21 ⟨rfl,hb⟩;have HC21:=Lib.hid (bnext HC20.out hb);clear hb c1 c2 c3 c4 c5;obtain⟨c1,c2,c3,c4,c5⟩:=HCL.out _ HC21.out;go_wp2_with fail
    refine (ICV.out _ HC21.out).mono ?_;rintro e wk22 ⟨rfl,hb⟩;have HC22:=Lib.hid (bnext HC21.out hb);clear hb c1 c2 c3 c4 c5;obtain⟨c1,c2,c3,c4,c5⟩:=HCL.out _ HC22.out;go_wp2_with fail
    refine (ICO.out _ HC22.out).mono ?_;rintro e wk23 ⟨rfl,hb⟩;have HC23:=Lib.hid (bnext HC22.out hb);clear hb c1 c2 c3 c4 c5;obtain⟨c1,c2,c3,c4,c5⟩:=HCL.out _ HC23.out;go_wp2_with fail
    go_meet
    exact⟨rfl,HC23.out⟩
   ·go_wp2_with fail
    refine (SCU.out _ HB4.out).mono ?_;rintro e wk20 ⟨rfl,hb⟩;have HC20:=Lib.hid (bnext HB4.out hb);clear hb c1 c2 c3 c4 c5;obtain⟨c1,c2,c3,c4,c5⟩:=HCL.out _ HC20.out;go_wp2_with fail
    refine (IEU.out _ HC20.out).mono ?_;rintro e wk21 ⟨rfl,hb⟩;have HC21:=Lib.hid (bnext HC20.out hb);clear hb c1 c2 c3 c4 c5;obtain⟨c1,c2,c3,c4,c5⟩:=HCL.out _ HC21.out;go_wp2_with fail
    refine (ICV.out _ HC21.out).mono ?_;rintro e wk22 ⟨rfl,hb⟩;have HC22:=Lib.hid (bnext HC21.out hb);clear hb c1 c2 c3 c4 c5;obtain⟨c1,c2,c3,c4,c5⟩:=HCL.out _ HC22.out;go_wp2_with fail
    refine (ICO.out _ HC22.out).mono ?_;rintro e wk23 ⟨rfl,hb⟩;have HC23:=Lib.hid (bnext HC22.out hb);clear hb c1 c2 c3 c4 c5;obtain⟨c1,c2,c3,c4,c5⟩:=HCL.out _ HC23.out;go_wp2_with fail
    refine (SAK.out _ HC23.out).mono ?_;rintro e wk24 ⟨rfl,hb⟩;have HC24:=Lib.hid (bnext HC23.out hb);clear hb c1 c2 c3 c4 c5;obtain⟨c1,c2,c3,c4,c5⟩:=HCL.out _ HC24.out;go_wp2_with fail
    go_meet
    exact⟨rfl,HC24.out⟩
   ·go_wp2_with fail
    refine (SCU.out _ HB4.out).mono ?_;rintro e wk20 ⟨rfl,hb⟩;have HC20:=Lib.hid (bnext HB4.out hb);clear hb c1 c2 c3 c4 c5;obtain⟨c1,c2,c3,c4,c5⟩:=HCL.out _ HC20.out;go_wp2_with fail
    refine (IEU.out _ HC20.out).mono ?_;rintro e wk21 ⟨rfl,hb⟩;have HC21:=Lib.hid (bnext HC20.out hb);clear hb c1 c2 c3 c4 c5;obtain⟨c1,c2,c3,c4,c5⟩:=HCL.out _ HC21.out;go_wp2_with fail
    refine (ICV.out _ HC21.out).mono ?_;rintro e wk22 ⟨rfl,hb⟩;have HC22:=Lib.hid (bnext HC21.out hb);clear hb c1 c2 c3 c4 c5;obtain⟨c1,c2,c3,c4,c5⟩:=HCL.out _ HC22.out;go_wp2_with fail
    refine (ICO.out _ HC22.out).mono ?_;rintro e wk23 ⟨rfl,hb⟩;have HC23:=Lib.hid (bnext HC22.out hb);clear hb c1 c2 c3 c4 c5;obtain⟨c1,c2,c3,c4,c5⟩:=HCL.out _ HC23.out;go_wp2_with fail
    go_meet
    exact⟨rfl,HC23.out⟩
   ·go_wp2_with fail
    refine (SCU.out _ HB4.out).mono ?_;rintro e wk20 ⟨rfl,hb⟩;have HC20:=Lib.hid (bnext HB4.out hb);clear hb c1 c2 c3 c4 c5;obtain⟨c1,c2,c3,c4,c5⟩:=HCL.out _ HC20.out;go_wp2_with fail
    refine (IEU.out _ HC20.out).mono ?_;rintro e wk21 ⟨rfl,hb⟩;have HC21:=Lib.hid (bnext HC20.out hb);clear hb c1 c2 c3 c4 c5;obtain⟨c1,c2,c3,c4,c5⟩:=HCL.out _ HC21.out;go_wp2_with fail
    refine (ICV.out _ HC21.out).mono ?_;rintro e wk22 ⟨rfl,hb⟩;have HC22:=Lib.hid (bnext HC21.out hb);clear hb c1 c2 c3 c4 c5;obtain⟨c1,c2,c3,c4,c5⟩:=HCL.out _ HC22.out;go_wp2_with fail
    refine (ICO.out _ HC22.out).mono ?_;rintro e wk23 ⟨rfl,hb⟩;have HC23:=Lib.hid (bnext HC22.out hb);clear hb c1 c2 c3 c4 c5;obtain⟨c1,c2,c3,c4,c5⟩:=HCL.out _ HC23.out;go_wp2_with fail
    refine (SAK.out _ HC23.out).mono ?_;rintro e wk24 ⟨rfl,hb⟩;have HC24:=Lib.hid (bnext HC23.out hb);clear hb c1 c2 c3 c4 c5;obtain⟨c1,c2,c3,c4,c5⟩:=HCL.out _ HC24.out;go_wp2_with fail
    go_meet
    exact⟨rfl,HC24.out⟩
 case rest=>
  obtain⟨rfl,hb⟩:=hcut;obtain⟨w7,hw7⟩:∃x,x=wc:=⟨_,rfl⟩
  subst hw7;have HBc:=Lib.hid hb;clear hb;have hbc3:=bnext HB3.out HBc.out;clear c1 c2 c3 c4 c5 HB4;go_wp2_with fail
  refine (hd2.out _ (HA.out.below hbc3)).mono ?_;rintro e w8 ⟨sv2,s2,q3,d3,dv,db,rfl,hs2,_,hq3,_,hdb,hdb8,_,hb⟩;obtain⟨ea,en,ec,rfl,_⟩:=hs2;obtain⟨ga,gn,gc,ha,hn,hc,rfl,_,_⟩:=hq3;have HDB8:=Lib.hid hdb;obtain⟨va,vn,vc,rfl,_⟩:=hdb;obtain⟨w9,hw9⟩:∃x,x=(w8.alloc (.cells #[.slice ea en ec] 26)).alloc (.cells #[.slice ga gn gc,.slice ha hn hc] 29):=⟨_,rfl⟩
  have hbb:Below w8.heap.size w8 w9:=by rw[hw9];exact ((Below.refl _ _).alloc (Nat.le_refl _) _).alloc (by simp) _
  have HB9:=Lib.hid (bnext HBc.out (bnext hb hbb));have HDB9:=Lib.hid (RdAtomS.below HDB8.out hbb);obtain⟨f4,hf4⟩:∃r,r=w8.heap.size:=⟨_,rfl⟩
  obtain⟨f5,hf5⟩:∃r,r=w8.heap.size+1:=⟨_,rfl⟩
  have HW9:=Lib.hid hw9;have HF4:=Lib.hid hf4;have HF5:=Lib.hid hf5;clear hb hbb hw9 hbc3 HDB8 hf4 hf5;go_upto_region 8 with fail
  rw[←HF5.out,←HF4.out,←HW9.out];clear HF4 HF5 HW9;have hal:=below_alloc w9 (.cells #[] 133);have HTM:=Lib.hid (fun a c=>tame_any (w9.alloc (.cells #[] 133)) _ _ db ks a c (RdAtomS.below HDB9.out hal) (RK.out _ (bnext HB9.out hal)) (by omega));clear hal;go_wp2_with fail
  refine (HTM.out _ _).mono ?_;rintro e w10 ⟨xv,x,rfl,hx,hKD,hb⟩;have HB10:=Lib.hid (bnext HB9.out (bnext (below_alloc w9 _) hb));have HX10:=Lib.hid hx;have HKD:=Lib.hid hKD;obtain⟨ta,tn,tc,rfl,_⟩:=hx;obtain⟨c1,c2,c3,c4,c5⟩:=HCL.out _ HB10.out;clear hb hKD HTM;go_wp2_with fail
  refine (SAK.out _ HB10.out).mono ?_;rintro e w11 ⟨rfl,hb⟩;have HB11:=Lib.hid (bnext HB10.out hb);have HX11:=Lib.hid (RdAtomS.below HX10.out hb);clear hb c1 c2 c3 c4 c5 HX10;obtain⟨c1,c2,c3,c4,c5⟩:=HCL.out _ HB11.out
  cases ak with
  |false=>
   have hcu0:cu=false:=by
    cases cu with
    |false=>rfl
    |true=>exact absurd (HCUAK.out rfl) (by simp)
   subst hcu0;go_wp2_with fail
   go_ret;exact⟨rfl,bnext HB3.out HB11.out⟩
  |true=>
   obtain⟨R,hR⟩:∃R,ckR s a ks=R:=⟨_,rfl⟩
   obtain⟨fa,hfa⟩:∃p,fineB s a 4=p:=⟨_,rfl⟩
   have HRE:Hid (fa=true→R=chQ ks a):=fun h=>by
    rw[←hR];unfold ckR;rw[hfa,h,HAK.out];rfl
   have HFA:=Lib.hid hfa;rw[hR] at ICK SCK;rw[hfa] at SIQ
   have HRD:Hid (∀x0,R=some x0→sizeQuery x0≤1048576):=fun x0 h=>by
    have e:ckR s a ks=some x0:=hR.trans h;unfold ckR at e
    split at e
    ·rename_i hc
     rw[Bool.and_eq_true] at hc;exact Nat.le_trans (chQ_fine hc.1 e).2.2 HZA.out.1
    ·cases e
   clear hR hfa;go_wp2_with fail
   refine (ICK.out _ HB11.out).mono ?_;rintro e w12 ⟨rv,rbs,rfl,hro,_,hb⟩;have HQX12:=Lib.hid hro.rd;obtain⟨ra,rn,rc,ra',rn',rc',rfl,_⟩:=hro;have HX12:=Lib.hid (RdAtomS.below HX11.out hb);have HB12:=Lib.hid (bnext HB11.out hb);obtain⟨w13,hw13⟩:∃x,x=w12.alloc (.cells #[.slice ra rn rc,.slice ra' rn' rc'] 29):=⟨_,rfl⟩
   have hb13:Below w12.heap.size w12 w13:=by rw[hw13];exact below_alloc _ _
   obtain⟨f12,hf12⟩:∃x,x=w12.heap.size:=⟨_,rfl⟩
   have r0:w13.cell? ⟨f12,0,none⟩=some (.slice ra rn rc):=by rw[hw13,hf12];simp
   have r1:w13.cell? ⟨f12,1,none⟩=some (.slice ra' rn' rc'):=by rw[hw13,hf12];simp
   have HB13:=Lib.hid (bnext HB12.out hb13);have HX13:=Lib.hid (RdAtomS.below HX12.out hb13);have HR13:Hid (∀W,Below w13.heap.size w13 W→W.cell? ⟨f12,0,none⟩=some (.slice ra rn rc)∧W.cell? ⟨f12,1,none⟩=some (.slice ra' rn' rc')∧RdQuery W (.agg #[.slice ra rn rc,.slice ra' rn' rc']) (R.getD ([],[]))):=fun W h=>⟨cellk h r0,cellk h r1,HQX12.out.below (bnext hb13 h)⟩
   have HW13:=Lib.hid hw13;have HF12:=Lib.hid hf12;clear hb hb13 hw13 hf12 r0 r1 HX11 HX12 HQX12 c1 c2 c3 c4 c5 HB12;obtain⟨c1,c2,c3,c4,c5⟩:=HCL.out _ HB13.out;go_upto_region 12 with fail
   rw[←HW13.out,←HF12.out];clear HW13 HF12;go_wp2_with fail
   refine (SCK.out _ HB13.out).mono ?_;rintro e w14 ⟨qa,qn,qc,qa',qn',qc',rfl,hqr,hb⟩;have HX14:=Lib.hid (RdAtomS.below HX13.out hb);have HB14:=Lib.hid (bnext HB13.out hb);obtain⟨w15,hw15⟩:∃x,x=w14.alloc (.cells #[.slice qa qn qc,.slice qa' qn' qc'] 29):=⟨_,rfl⟩
   have hb15:Below w14.heap.size w14 w15:=by rw[hw15];exact below_alloc _ _
   obtain⟨f14,hf14⟩:∃x,x=w14.heap.size:=⟨_,rfl⟩
   have s0:w15.cell? ⟨f14,0,none⟩=some (.slice qa qn qc):=by rw[hw15,hf14];simp
   have s1:w15.cell? ⟨f14,1,none⟩=some (.slice qa' qn' qc'):=by rw[hw15,hf14];simp
   have HB15:=Lib.hid (bnext HB14.out hb15);have HX15:=Lib.hid (RdAtomS.below HX14.out hb15);have H1315:=Lib.hid (bnext hb hb15);have HQR:=Lib.hid hqr
   have HC15:Hid (∀W,Below w15.heap.size w15 W→W.cell? ⟨f12,0,none⟩=some (.slice ra rn rc)∧W.cell? ⟨f12,1,none⟩=some (.slice ra' rn' rc')∧W.cell? ⟨f14,0,none⟩=some (.slice qa qn qc)∧W.cell? ⟨f14,1,none⟩=some (.slice qa' qn' qc')∧RdQuery W (.agg #[.slice ra rn rc,.slice ra' rn' rc']) (R.getD ([],[]))∧RdQuery W (.agg #[.slice qa qn qc,.slice qa' qn' qc']) (R.getD ([],[]))):=fun W h=>
    ⟨(HR13.out W (bnext H1315.out h)).1,(HR13.out W (bnext H1315.out h)).2.1,cellk h s0,cellk h s1,(HR13.out W (bnext H1315.out h)).2.2,HQR.out.below (bnext hb15 h)⟩
   have HW15:=Lib.hid hw15;have HF14:=Lib.hid hf14;clear hb hb15 hw15 hf14 s0 s1 HX13 HX14 hqr c1 c2 c3 c4 c5 HB14 HB13;obtain⟨c1,c2,c3,c4,c5⟩:=HCL.out _ HB15.out;obtain⟨k1,k2,k3,k4,k5,k6⟩:=HC15.out _ (Below.refl _ _);have HK5:=Lib.hid k5;have HK6:=Lib.hid k6;clear k5 k6;go_upto_region 13 with fail
   rw[←HW15.out,←HF14.out];clear HW15 HF14;have HEQ:=Lib.hid (sEqualQueries_any w15 _ _ _ _ HK5.out HK6.out);rw[decide_eq_true rfl] at HEQ;obtain⟨rs,hrs⟩:∃b,R.isSome=b:=⟨_,rfl⟩
   rw[hrs];have HRS:=Lib.hid hrs;clear hrs;go_wp2_with fail
   refine HEQ.out.mono ?_;rintro e w16 ⟨rfl,hb⟩;have HB16:=Lib.hid (bnext HB15.out hb);have HX16:=Lib.hid (RdAtomS.below HX15.out hb);have H1516:=Lib.hid hb;clear hb c1 c2 c3 c4 c5 k1 k2 k3 k4 HX15 HEQ HK5 HK6;obtain⟨c1,c2,c3,c4,c5⟩:=HCL.out _ HB16.out;go_wp2_with fail
   refine (SAA.out _ _ x HB16.out HX16.out).mono ?_;rintro e w17 ⟨lv,lbs,rfl,ho,_,hb⟩;have HL17:=Lib.hid (ROIntSS.rd ho);have HB17:=Lib.hid (bnext HB16.out hb);have HX17:=Lib.hid (RdAtomS.below HX16.out hb);have H1517:=Lib.hid (bnext H1516.out hb);clear hb ho c1 c2 c3 c4 c5 HX16 H1516;obtain⟨la,ln,lc,rfl,hlr⟩:=HL17.out;have HLN:Hid ((answersN s a x).length=ln):=hlr.at.1;clear hlr;obtain⟨c1,c2,c3,c4,c5⟩:=HCL.out _ HB17.out;obtain⟨k1,k2,k3,k4,k5,k6⟩:=HC15.out _ H1517.out;clear k5 k6;go_upto_region 16 with fail
   go_cut [135] (fun q135 wx=>q135=.bool false∧Below w17.heap.size w17 wx)
   case first=>
    cases fa with
    |false=>
     go_wp2_with fail
     refine (SIQ.out _ HB17.out).mono ?_;rintro e w18 ⟨rfl,hb⟩;have HE18:=Lib.hid hb;clear hb c1 c2 c3 c4 c5 k1 k2 k3 k4;go_wp2_with fail
     go_meet
     exact⟨rfl,HE18.out⟩
    |true=>
     have hRc:=HRE.out rfl
     cases R with
     |none=>
      have hrs0:rs=false:=HRS.out.symm;subst hrs0
      have hln0:ln=0:=by
       rw[←HLN.out];exact List.length_eq_zero_iff.2 (List.eq_nil_iff_forall_not_mem.2 (fun y hy=>keys_none HKD.out HFA.out hRc.symm y hy))
      subst hln0;clear hRc;go_wp2_with fail
      refine (SIQ.out _ HB17.out).mono ?_;rintro e w18 ⟨rfl,hb⟩;have HE18:=Lib.hid hb;clear hb c1 c2 c3 c4 c5 k1 k2 k3 k4;go_wp2_with fail
      go_meet
      exact⟨rfl,HE18.out⟩
     |some x0=>
      have hrs0:rs=true:=HRS.out.symm;subst hrs0;have hxz:=HRD.out x0 rfl;have hx1:sizeAtomS x0.2≤1048576:=by unfold sizeQuery at hxz;omega
      have hx2:x0.1.length≤1048576:=by unfold sizeQuery at hxz;omega
      have HSA:=Lib.hid (answers_same13 (keys_same HKD.out HFA.out hRc.symm));clear hRc hxz;go_wp2_with fail
      refine (SIQ.out _ HB17.out).mono ?_;rintro e w18 ⟨rfl,hb⟩;have HB18:=Lib.hid (bnext HB17.out hb);have HE18:=Lib.hid hb;have HX18:=Lib.hid (RdAtomS.below HX17.out hb);have H1518:=Lib.hid (bnext H1517.out hb);clear hb c1 c2 c3 c4 c5 k1 k2 k3 k4;obtain⟨c1,c2,c3,c4,c5⟩:=HCL.out _ HB18.out;obtain⟨k1,k2,k3,k4,k5,k6⟩:=HC15.out _ H1518.out;have HK6:=Lib.hid k6;clear k5 k6;have HAN:=Lib.hid (sAnswers_any w18 _ _ _ s x0 x (RS.out _ HB18.out) HK6.out HX18.out hx1 hx2);clear hx1 hx2;go_wp2_with fail
      refine HAN.out.mono ?_;rintro e w19 ⟨mv,mbs,rfl,ho,_,hb⟩;have HM19:=Lib.hid (ROIntSS.rd ho);have HL19:=Lib.hid (RdIntSS.below HL17.out (bnext HE18.out hb));have HE19:=Lib.hid (bnext HE18.out hb);clear hb ho c1 c2 c3 c4 c5 k1 k2 k3 k4 HAN;have HST:=Lib.hid (iSameTuplesL_any w19 _ _ _ _ HM19.out HL19.out (by have:=answers_len13 s x0 x;omega) (by have:=answers_len13 s a x;omega));rw[HSA.out,decide_eq_true rfl] at HST;go_wp2_with fail
      refine HST.out.mono ?_;rintro e w20 ⟨rfl,hb⟩;have HE20:=Lib.hid (bnext HE19.out hb);clear hb;go_wp2_with fail
      go_meet
      exact⟨rfl,HE20.out⟩
   case rest=>
    obtain⟨rfl,hb⟩:=hcut;obtain⟨w20,hw20⟩:∃x,x=wc:=⟨_,rfl⟩
    subst hw20;have HB20:=Lib.hid (bnext HB17.out hb);have HX20:=Lib.hid (RdAtomS.below HX17.out hb);have HL20:=Lib.hid (RdIntSS.below HL17.out hb);clear hb c1 c2 c3 c4 c5 k1 k2 k3 k4;obtain⟨c1,c2,c3,c4,c5⟩:=HCL.out _ HB20.out
    cases cu with
    |false=>
     go_wp2_with fail
     go_ret;exact⟨rfl,bnext HB3.out HB20.out⟩
    |true=>
     have HSUB:Hid (∀y∈answersN s a x,y∈answersN s b x):=fun y hy=>keys_sub HKD.out HCU.out hy
     go_wp2_with fail
     refine (SAB.out _ _ x HB20.out HX20.out).mono ?_;rintro e w21 ⟨mv,mbs,rfl,ho,_,hb⟩;have HM21:=Lib.hid (ROIntSS.rd ho);have HL21:=Lib.hid (RdIntSS.below HL20.out hb);have HB21:=Lib.hid (bnext HB20.out hb);clear hb ho c1 c2 c3 c4 c5;go_wp2_with fail
     refine (hsi.out _ _ _ _ _ HL21.out HM21.out).mono ?_;rintro e w22 ⟨rfl,hb⟩;rw[decide_eq_true HSUB.out];have HB22:=Lib.hid (bnext HB21.out hb);clear hb;go_wp2_with fail
     go_ret;exact⟨rfl,bnext HB3.out HB22.out⟩
end Go.Proofs.YtpedpbbiamhgdaaGreatDoor
