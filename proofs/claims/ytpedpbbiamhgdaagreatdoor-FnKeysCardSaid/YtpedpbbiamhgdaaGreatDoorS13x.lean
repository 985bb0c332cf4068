import Derived.Test.YtpedpbbiamhgdaaGreatDoorS12
import Derived.Test.YtpedpbbiamhgdaaGreatDoorSquery
import Derived.Test.YtpedpbbiamhgdaaGreatDoorS13a
import Derived.Test.YtpedpbbiamhgdaaGreatDoorS9x
namespace Go.Proofs.YtpedpbbiamhgdaaGreatDoor
open Go Go.Sort Go.RowKit
set_option linter.unusedVariables false
section
variable {V:Nat→Nat→Nat→Bool} {N M n i j:Nat}
def NoneG (V:Nat→Nat→Nat→Bool) (n i j:Nat):Prop:=∀n' i' j',i'<j'→(n'<n∨n'=n∧(i'<i∨i'=i∧j'<j))→V n' i' j'=false
def FirstG (V:Nat→Nat→Nat→Bool) (n i j:Nat):Prop:=V n i j=true∧i<j∧∀n' i' j',i'<j'→V n' i' j'=true→n<n'∨n=n'∧(i<i'∨i=i'∧j≤j')
theorem noneG_start:NoneG V 0 0 0:=fun n' i' j' _ h=>by omega
theorem noneG_first (h:NoneG V n i j) (hij:i<j) (hv:V n i j=true):FirstG V n i j:=
 ⟨hv,hij,fun n' i' j' h1 h2=>by
  rcases Nat.lt_or_ge n n' with h3|h3
  ·exact .inl h3
  ·refine .inr ?_;by_cases h4:n'<n
   ·rw[h n' i' j' h1 (.inl h4)] at h2;cases h2
   ·have e:n=n':=by omega
    subst e;refine⟨rfl,?_⟩;rcases Nat.lt_or_ge i i' with h5|h5
    ·exact .inl h5
    ·refine .inr ?_;by_cases h6:i'<i
     ·rw[h n i' j' h1 (.inr ⟨rfl,.inl h6⟩)] at h2;cases h2
     ·have e:i=i':=by omega
      subst e;refine⟨rfl,?_⟩;rcases Nat.lt_or_ge j' j with h7|h7
      ·rw[h n i j' h1 (.inr ⟨rfl,.inr ⟨rfl,h7⟩⟩)] at h2;cases h2
      ·exact h7⟩
theorem noneG_j (h:NoneG V n i j) (hv:V n i j=false):NoneG V n i (j+1):=fun n' i' j' h1 h2=>by
 by_cases e:n'=n∧i'=i∧j'=j
 ·rw[e.1,e.2.1,e.2.2];exact hv
 ·exact h n' i' j' h1 (by omega)
theorem noneG_i (hin:∀n i j,V n i j=true→n<N∧i<M∧j<M) (h:NoneG V n i M):NoneG V n (i+1) (i+1+1):=fun n' i' j' h1 h2=>by
 cases hv:V n' i' j' with
 |false=>rfl
 |true=>
  have:=hin _ _ _ hv;rw[h n' i' j' h1 (by omega)] at hv;cases hv
theorem noneG_i0 (h:NoneG V n 0 0):NoneG V n 0 1:=fun n' i' j' h1 h2=>h n' i' j' h1 (by omega)
theorem noneG_n (hin:∀n i j,V n i j=true→n<N∧i<M∧j<M) (h:NoneG V n i j) (hi:M≤i):NoneG V (n+1) 0 0:=fun n' i' j' h1 h2=>by
 cases hv:V n' i' j' with
 |false=>rfl
 |true=>
  have:=hin _ _ _ hv;rw[h n' i' j' h1 (by omega)] at hv;cases hv
theorem noneG_all (hin:∀n i j,V n i j=true→n<N∧i<M∧j<M) (h:NoneG V N 0 0):∀n i j,i<j→V n i j=false:=fun n i j h1=>by
 cases hv:V n i j with
 |false=>rfl
 |true=>
  have:=hin _ _ _ hv;rw[h n i j h1 (by omega)] at hv;cases hv
theorem firstG_one {n' i' j':Nat} (h:FirstG V n i j) (h':FirstG V n' i' j'):n=n'∧i=i'∧j=j':=by
 have a:=h.2.2 _ _ _ h'.2.1 h'.1;have b:=h'.2.2 _ _ _ h.2.1 h.1;omega
end
def dif:List Int→List Int→Nat
 |x::a,y::b=>if x=y then dif a b+1 else 0
 |_,_=>0
theorem dif_at {a b:List Int} {p:Nat} (ha:p<a.length) (hb:p<b.length) (he:∀j,j<p→a.getD j 0=b.getD j 0) (hn:a.getD p 0≠b.getD p 0):dif a b=p:=by
 induction p generalizing a b with
 |zero=>
  match a,b,ha,hb with
  |x::a,y::b,_,_=>
   have:x≠y:=by simpa using hn
   unfold dif;rw[if_neg this]
 |succ p ih=>
  match a,b,ha,hb with
  |x::a,y::b,ha,hb=>
   have h0:x=y:=by simpa using he 0 (by omega)
   unfold dif;rw[if_pos h0];rw[ih (by simpa using ha) (by simpa using hb) (fun j hj=>by simpa using he (j+1) (by omega)) (by simpa using hn)]
def pvB (l ks:List AtomD) (n i j:Nat):Bool:=
 match ks[n]?,l[i]?,l[j]? with
 |some k,some x,some y=>decide (x.1=k.1)&&(decide (y.1=k.1)&&(decide (x.2.length=y.2.length)&&(agreeB x.2 y.2 k.2 && !decide (x.2=y.2))))
 |_,_,_=>false
theorem pv_at {l ks:List AtomD} {n i j:Nat} {k x y:AtomD} (hk:ks[n]?=some k) (hx:l[i]?=some x) (hy:l[j]?=some y):pvB l ks n i j=(decide (x.1=k.1)&&(decide (y.1=k.1)&&(decide (x.2.length=y.2.length)&&(agreeB x.2 y.2 k.2 && !decide (x.2=y.2))))):=by
 unfold pvB;rw[hk,hx,hy]
theorem pv_in {l ks:List AtomD} (n i j:Nat) (h:pvB l ks n i j=true):n<ks.length∧i<l.length∧j<l.length:=by
 unfold pvB at h
 split at h
 ·rename_i k x y h1 h2 h3
  exact⟨(List.getElem?_eq_some_iff.1 h1).1,(List.getElem?_eq_some_iff.1 h2).1,(List.getElem?_eq_some_iff.1 h3).1⟩
 ·cases h
def argsAt (l:List AtomD) (i:Nat):List Int:=(l.getD i (0,[])).2
open Classical in
noncomputable def pvN (l ks:List AtomD):Int × Int × Int:=if h:∃t:Nat × Nat × Nat,FirstG (pvB l ks) t.1 t.2.1 t.2.2 then (((Classical.choose h).2.1:Int),((Classical.choose h).2.2:Int),(dif (argsAt l (Classical.choose h).2.1) (argsAt l (Classical.choose h).2.2):Int)) else (-1,-1,-1)
theorem pvN_at {l ks:List AtomD} {n i j:Nat} (h:FirstG (pvB l ks) n i j):pvN l ks=((i:Int),(j:Int),(dif (argsAt l i) (argsAt l j):Int)):=by
 have hE:∃t:Nat × Nat × Nat,FirstG (pvB l ks) t.1 t.2.1 t.2.2:=⟨(n,i,j),h⟩;unfold pvN;rw[dif_pos hE];have:=firstG_one (Classical.choose_spec hE) h;rw[this.2.1,this.2.2]
theorem pvN_none {l ks:List AtomD} (h:∀n i j,i<j→pvB l ks n i j=false):pvN l ks=(-1,-1,-1):=by
 unfold pvN;rw[dif_neg];rintro⟨t,h1,h2,_⟩;rw[h _ _ _ h2] at h1;cases h1
theorem argsAt_of {l:List AtomD} {i:Nat} {x:AtomD} (h:l[i]?=some x):argsAt l i=x.2:=by
 unfold argsAt;rw[List.getD_eq_getElem?_getD,h];rfl
set_option maxRecDepth 100000 in
set_option maxHeartbeats 16000000 in
theorem sPair13_any (w:World) (v vk:Value) (d:QueryD) (ks:List AtomD) (h:RdQuery w v d) (hk:RdAtomS w vk ks) :
  Calls Tryz.prog 91 #[v,vk] w (GaveV (.tuple #[.int .i64 (pvN d.2 ks).1,.int .i64 (pvN d.2 ks).2.1,.int .i64 (pvN d.2 ks).2.2]) w):=by
 obtain⟨ha,hn0,hc0,a,dn,c,rfl,hi0,hd⟩:=h;obtain⟨hdl,hdn,hdm,hdc⟩:=hd.at
 obtain⟨ka,kn,kc,rfl,hk⟩:=hk;obtain⟨hkl,hkn,hkm,hkc⟩:=hk.at
 unfold maxLen at hdm hkm;have HDC:=Lib.hid hdc;have HKC:=Lib.hid hkc;have HDL:=Lib.hid hdl;have HKL:=Lib.hid hkl;have hAG:=Lib.hid (fun w va vb vl a b l h1 h2 h3=>sAgree_any w va vb vl a b l h1 h2 h3);obtain⟨db,hdb⟩:∃l,d.2=l:=⟨_,rfl⟩
 rw[hdb] at HDC HDL ⊢;have hbw0:∀o,Below w.heap.size w (w.alloc o):=fun o=>(Below.refl _ _).alloc (Nat.le_refl _) _
 have HB0:=Lib.hid hbw0;clear hd hk hdc hkc hdl hkl hi0 hdb hbw0;go_enter Tryz.func91,Tryz.ntmps91
 go_wp2_with fail
 obtain⟨W,hW⟩:∃W,W=w.alloc (.cells #[.slice ha hn0 hc0,.slice a dn c] 29):=⟨_,rfl⟩
 have HBW:Hid (Below w.heap.size w W):=by rw[hW];exact HB0.out _
 have KQ:Hid (W.cell? ⟨w.heap.size,1,none⟩=some (.slice a dn c)):=Lib.hid (by rw[hW];simp);obtain⟨fq,hfq⟩:∃x,x=w.heap.size:=⟨_,rfl⟩
 rw[←hfq] at KQ;rw[←hW,←hfq];clear hW hfq
 go_loopw [7] (fun nv wr=>∃n:Nat,n≤kn∧nv=.int .i64 n∧Below W.heap.size W wr∧Hid (NoneG (pvB db ks) n 0 0)) (fun nv _=>kn-(intOf nv).toNat)
 case atStart=>exact⟨0,by omega,rfl,Below.refl _ _,noneG_start⟩
 case round=>
  obtain⟨wn,hwn⟩:∃x,x=wr:=⟨_,rfl⟩
  subst hwn;obtain⟨n,hn,rfl,hb,HN⟩:=hrel;have HBN:=Lib.hid hb;clear hb;by_cases hltn:n<kn
  ·obtain⟨kb,ko,rfl,hkw,hkc⟩:=HKC.out (by omega);obtain⟨k,hkk⟩:∃e,ks[n]?=some e:=⟨ks[n]'(by rw[HKL.out];exact hltn),List.getElem?_eq_getElem (by rw[HKL.out];exact hltn)⟩
   obtain⟨kea,kem,kec,kc0,kc1,_,kints⟩:=atomAt (n:=kn) hkc n k hkk;have HK0:=Lib.hid kc0;have HK1:=Lib.hid kc1;have HKI:=Lib.hid kints;have HKK:=Lib.hid hkk;have hn0':(0:Int)≤n:=by omega
   have hn1:(n:Int)<kn:=by omega
   clear hkw hkc kc0 kc1 kints hkk;go_wp2_with fail
   go_loopw [8] (fun iv wr=>∃i:Nat,i≤dn∧iv=.int .i64 i∧Below W.heap.size W wr∧Hid (NoneG (pvB db ks) n i (i+1))) (fun iv _=>dn-(intOf iv).toNat)
   case atStart=>exact⟨0,by omega,rfl,HBN.out,noneG_i0 HN.out⟩
   case round=>
    obtain⟨wi,hwi⟩:∃x,x=wr:=⟨_,rfl⟩
    subst hwi;obtain⟨i,hi,rfl,hb,HI⟩:=hrel;have HBI:=Lib.hid hb;have kq:=cellk hb KQ.out;clear hb;by_cases hlti:i<dn
    ·obtain⟨b,off,rfl,hdw,hdc⟩:=HDC.out (by omega);obtain⟨x,hxx⟩:∃e,db[i]?=some e:=⟨db[i]'(by rw[HDL.out];exact hlti),List.getElem?_eq_getElem (by rw[HDL.out];exact hlti)⟩
     obtain⟨xa,xm,xc,xc0,xc1,_,xints⟩:=atomAt (n:=dn) hdc i x hxx;have HX0:=Lib.hid xc0;have HX1:=Lib.hid xc1;have HXI:=Lib.hid xints;have HXX:=Lib.hid hxx;have HDC2:=Lib.hid hdc;have hi0:(0:Int)≤i:=by omega
     have hi1:(i:Int)<dn:=by omega
     clear hdw hdc xc0 xc1 xints hxx;go_wp2_with fail
     go_loopw [9] (fun jv wr=>∃j:Nat,i<j∧j≤dn∧jv=.int .i64 j∧Below W.heap.size W wr∧Hid (NoneG (pvB db ks) n i j)) (fun jv _=>dn-(intOf jv).toNat)
     case atStart=>exact⟨i+1,by omega,by omega,by simp,HBI.out,HI.out⟩
     case round=>
      obtain⟨wj,hwj⟩:∃x,x=wr:=⟨_,rfl⟩
      subst hwj;obtain⟨j,hij,hj,rfl,hb,HJ⟩:=hrel;have HB:=Lib.hid hb;have kq:=cellk hb KQ.out;by_cases hltj:j<dn
      ·obtain⟨y,hyy⟩:∃e,db[j]?=some e:=⟨db[j]'(by rw[HDL.out];exact hltj),List.getElem?_eq_getElem (by rw[HDL.out];exact hltj)⟩
       obtain⟨ya,ym,yc,yc0,yc1,_,yints⟩:=atomAt (n:=dn) HDC2.out j y hyy;have hbj:=bnext HBW.out hb;have x0:=cellk hbj HX0.out;have x1:=cellk hbj HX1.out;have y0:=cellk hbj yc0;have y1:=cellk hbj yc1;have hj0:(0:Int)≤j:=by omega
       have hj1:(j:Int)<dn:=by omega
       obtain⟨w1,hw1⟩:∃q,q=wj.alloc (.cells #[.int .i64 x.1,.slice xa xm xc] 83):=⟨_,rfl⟩
       obtain⟨wb,hwb⟩:∃q,q=w1.alloc (.cells #[.int .i64 y.1,.slice ya ym yc] 83):=⟨_,rfl⟩
       have hb1:Below wj.heap.size wj w1:=by rw[hw1];exact below_alloc wj _
       have hb2:Below w1.heap.size w1 wb:=by rw[hwb];exact below_alloc w1 _
       have y0':=cellk hb1 y0;have y1':=cellk hb1 y1;have kq1:=cellk hb1 kq;have hbb:=bnext hbj (bnext hb1 hb2);obtain⟨fa,hfa⟩:∃q,q=wj.heap.size:=⟨_,rfl⟩
       obtain⟨fb,hfb⟩:∃q,q=w1.heap.size:=⟨_,rfl⟩
       have A0:Hid (wb.cell? ⟨fa,0,none⟩=some (.int .i64 x.1)):=Lib.hid (cellk hb2 (by rw[hw1,hfa];simp));have A1:Hid (wb.cell? ⟨fa,1,none⟩=some (.slice xa xm xc)):=Lib.hid (cellk hb2 (by rw[hw1,hfa];simp));have B0:Hid (wb.cell? ⟨fb,0,none⟩=some (.int .i64 y.1)):=Lib.hid (by rw[hwb,hfb];simp);have B1:Hid (wb.cell? ⟨fb,1,none⟩=some (.slice ya ym yc)):=Lib.hid (by rw[hwb,hfb];simp);have HBB:=Lib.hid (bnext HB.out (bnext hb1 hb2));have HXB:=Lib.hid (HXI.out.below hbb);have HYB:=Lib.hid (yints.below hbb);have HKB:=Lib.hid (HKI.out.below hbb);have k0:=cell_regrown (w:=wb) (cellk hbb HK0.out);have k1:=cell_regrown (w:=wb) (cellk hbb HK1.out);have HV:=Lib.hid (pv_at HKK.out HXX.out hyy);have HAX:=Lib.hid (argsAt_of HXX.out);have HAY:=Lib.hid (argsAt_of hyy);have HNX:Hid (pvB db ks n i j=false→NoneG (pvB db ks) n i (j+1)):=fun h=>noneG_j HJ.out h
       have HFV:Hid (pvB db ks n i j=true→pvN db ks=((i:Int),(j:Int),(dif (argsAt db i) (argsAt db j):Int))):=fun h=>pvN_at (noneG_first HJ.out hij h)
       have hxl:x.2.length=xm:=by obtain⟨_,_,_,e,hl,_⟩:=HXI.out.cases;cases e;exact hl
       have hyl:y.2.length=ym:=by obtain⟨_,_,_,e,hl,_⟩:=yints.cases;cases e;exact hl
       have HXL:=Lib.hid hxl;have HYL:=Lib.hid hyl;have hc1:=Lib.hid (fun dn os=>hAG.out (grow (redrawn wb dn) os) (.slice xa xm xc) (.slice ya ym yc) (.slice kea kem kec) x.2 y.2 k.2 (HXB.out.below (below_regrown wb dn os)) (HYB.out.below (below_regrown wb dn os)) (HKB.out.below (below_regrown wb dn os)));obtain⟨q1,hq1⟩:∃q,agreeB x.2 y.2 k.2=q:=⟨_,rfl⟩
       rw[hq1] at hc1;have HV2:Hid (pvB db ks n i j=(decide (x.1=k.1)&&(decide (y.1=k.1)&&(decide (xm=ym)&&(q1 && !decide (x.2=y.2)))))):=by unfold Hid;rw[HV.out,hq1,hxl,hyl]
       have HW1:=Lib.hid hw1;have HWB:=Lib.hid hwb;have HFA:=Lib.hid hfa;have HFB:=Lib.hid hfb;clear hb hyy yc0 yc1 yints HJ HV hq1 hxl hyl hbj hbb hb1 hb2 hw1 hwb hfa hfb;generalize x.1=xr at *;generalize y.1=yr at *;generalize k.1=kr at *;go_upto_region 11 with fail
       rw[←HW1.out,←HFA.out];go_upto_region 12 with fail
       rw[←HWB.out,←HFB.out];clear HW1 HWB HFA HFB x0 x1 y0 y1 y0' y1' kq kq1;have a0:=cell_regrown (w:=wb) A0.out;have a1:=cell_regrown (w:=wb) A1.out;have b0:=cell_regrown (w:=wb) B0.out;have b1:=cell_regrown (w:=wb) B1.out;by_cases e1:xr=kr
       ·by_cases e2:yr=kr
        ·subst e1;subst e2;by_cases e3:xm=ym
         ·have HV3:Hid (pvB db ks n i j=(q1 && !decide (x.2=y.2))):=by unfold Hid;rw[HV2.out,decide_eq_true rfl,decide_eq_true e3];rfl
          subst e3;clear HV2
          cases q1 with
          |false=>
           have HE:=Lib.hid (HNX.out (by rw[HV3.out];rfl));clear HNX HFV HV3;go_wp2_with fail
           refine wp_region_quiet_below (by kernel_rfl) (by kernel_rfl) ?_
           repeat (any_goals (first|go_big_quiet_step ((first|(go_at_call 106;exact Calls.regrown_of (hc1.out _ _))))|quiet_step ((first|(go_at_call 106;exact Calls.regrown_of (hc1.out _ _))))))
           refine wpQuiet_nil ?_;intro _ hw';obtain⟨⟨dq,osq⟩,hw''⟩:=hw';subst hw'';go_wp2_with fail
           exact⟨⟨j+1,by omega,by omega,by simp,bnext HBB.out (below_regrown _ _ _),HE.out⟩,by simp[intOf];omega⟩
          |true=>
           have HV4:Hid (pvB db ks n i j = !decide (x.2=y.2)):=by unfold Hid;rw[HV3.out];rfl
           clear HV3;go_wp2_with fail
           refine wp_region_quiet_below (by kernel_rfl) (by kernel_rfl) ?_
           repeat (any_goals (first|go_big_quiet_step ((first|(go_at_call 106;exact Calls.regrown_of (hc1.out _ _))))|quiet_step ((first|(go_at_call 106;exact Calls.regrown_of (hc1.out _ _))))))
           refine wpQuiet_nil ?_;intro _ hw';obtain⟨⟨dq,osq⟩,hw''⟩:=hw';subst hw'';go_wp2_with fail
           obtain⟨wp,hwp⟩:∃q,q=grow (redrawn wb dq) osq:=⟨_,rfl⟩
           have HBP:Hid (Below wb.heap.size wb wp):=by rw[hwp];exact below_regrown _ _ _
           rw[←hwp];clear hwp a0 a1 b0 b1 k0 k1
           go_loopw [12] (fun pv wr=>∃p:Nat,p≤xm∧pv=.int .i64 p∧Below wb.heap.size wb wr∧Hid (∀p',p'<p→x.2.getD p' 0=y.2.getD p' 0)) (fun pv _=>xm-(intOf pv).toNat)
           case atStart=>exact⟨0,by omega,rfl,HBP.out,fun p' hp=>by omega⟩
           case round=>
            obtain⟨wq,hwq⟩:∃q,q=wr:=⟨_,rfl⟩
            subst hwq;obtain⟨p,hp,rfl,hb,HP⟩:=hrel;have HBQ:=Lib.hid hb;have s1:=cellk hb A1.out;by_cases hltp:p<xm
            ·obtain⟨_,_,_,ex,_,_,hmx,hcx⟩:=(HXB.out.below hb).cases
             cases ex;obtain⟨bx,ox,rfl,_,hcx⟩:=hcx (by omega);obtain⟨_,_,_,ey,_,_,hmy,hcy⟩:=(HYB.out.below hb).cases
             cases ey;obtain⟨by',oy,rfl,_,hcy⟩:=hcy (by omega);have c1:=cell_regrown (w:=wq) (cellk hb A1.out);have c2:=cell_regrown (w:=wq) (cellk hb B1.out);have c3:=cell_regrown (w:=wq) (hcx p hltp);have c4:=cell_regrown (w:=wq) (hcy p hltp);have hp0:(0:Int)≤p:=by omega
             have hp1:(p:Int)<xm:=by omega
             unfold maxLen at hmx;by_cases heq:x.2.getD p 0=y.2.getD p 0
             ·have HE:Hid (∀p',p'<p+1→x.2.getD p' 0=y.2.getD p' 0):=fun p' h=>by
               rcases Nat.lt_or_ge p' p with h7|h7
               ·exact HP.out p' h7
               ·obtain rfl:p'=p:=by omega
                exact heq
              rw[←heq] at c4;clear hcx hcy hb heq HP;generalize x.2.getD p 0=xv at *;go_wp2_with fail
              refine wp_region_quiet_below (by kernel_rfl) (by kernel_rfl) ?_
              repeat (any_goals (first|go_big_quiet_step (fail)|quiet_step (fail)))
              refine wpQuiet_nil ?_;intro _ hw';obtain⟨⟨dq,osq⟩,hw''⟩:=hw';subst hw'';go_wp2_with fail
              exact⟨⟨p+1,by omega,by simp,bnext HBQ.out (below_regrown _ _ _),HE.out⟩,by simp[intOf];omega⟩
             ·have hne:¬(x.2=y.2):=fun e=>heq (by rw[e])
              have HQ:Hid (pvN db ks=((i:Int),(j:Int),(p:Int))):=by
               unfold Hid;rw[HFV.out (by rw[HV4.out,decide_eq_false hne];rfl),HAX.out,HAY.out,dif_at (by rw[HXL.out];exact hltp) (by rw[HYL.out];exact hltp) HP.out heq]
              clear hcx hcy hb HP hne;generalize x.2.getD p 0=xv at *;generalize y.2.getD p 0=yv at *;have q:(xv != yv)=true:=bne_iff_ne.2 heq;clear heq;go_wp2_with fail
              refine wp_region_quiet_below (by kernel_rfl) (by kernel_rfl) ?_
              repeat (any_goals (first|go_big_quiet_step (fail)|quiet_step (fail)))
              refine wpQuiet_nil ?_;intro _ hw';obtain⟨⟨dq,osq⟩,hw''⟩:=hw';subst hw'';go_wp2_with fail
              exact bodyPost_ret (v:=.tuple #[.int .i64 i,.int .i64 j,.int .i64 p]) (by simp[results,Tryz.results91,go_sem]) rfl ⟨by rw[HQ.out],bnext HBW.out (bnext HBB.out (bnext HBQ.out (below_regrown _ _ _)))⟩
            ·obtain rfl:p=xm:=by omega
             have hxy:x.2=y.2:=List.ext_getElem (by rw[HXL.out,HYL.out]) (fun t h1 h2=>by
              have:=HP.out t (by rw[←HXL.out];exact h1);rw[List.getD_eq_getElem?_getD,List.getD_eq_getElem?_getD,List.getElem?_eq_getElem h1,List.getElem?_eq_getElem h2] at this;exact this)
             have HE:=Lib.hid (HNX.out (by rw[HV4.out,decide_eq_true hxy];rfl));clear hb hxy HNX HFV;go_wp2_with fail
             exact⟨⟨j+1,by omega,by omega,by simp,bnext HBB.out HBQ.out,HE.out⟩,by simp[intOf];omega⟩
         ·have HE:=Lib.hid (HNX.out (by rw[HV2.out,decide_eq_false e3];simp));have q:((xm:Int) != ym)=true:=bne_iff_ne.2 (by omega);clear HNX HFV HV2 e3;go_wp2_with fail
          refine wp_region_quiet_below (by kernel_rfl) (by kernel_rfl) ?_
          repeat (any_goals (first|go_big_quiet_step ((first|(go_at_call 106;exact Calls.regrown_of (hc1.out _ _))))|quiet_step ((first|(go_at_call 106;exact Calls.regrown_of (hc1.out _ _))))))
          refine wpQuiet_nil ?_;intro _ hw';obtain⟨⟨dq,osq⟩,hw''⟩:=hw';subst hw'';go_wp2_with fail
          exact⟨⟨j+1,by omega,by omega,by simp,bnext HBB.out (below_regrown _ _ _),HE.out⟩,by simp[intOf];omega⟩
        ·have HE:=Lib.hid (HNX.out (by rw[HV2.out,decide_eq_false e2];simp));have q:(yr != kr)=true:=bne_iff_ne.2 e2;subst e1;clear HNX HFV HV2 e2;go_wp2_with fail
         refine wp_region_quiet_below (by kernel_rfl) (by kernel_rfl) ?_
         repeat (any_goals (first|go_big_quiet_step ((first|(go_at_call 106;exact Calls.regrown_of (hc1.out _ _))))|quiet_step ((first|(go_at_call 106;exact Calls.regrown_of (hc1.out _ _))))))
         refine wpQuiet_nil ?_;intro _ hw';obtain⟨⟨dq,osq⟩,hw''⟩:=hw';subst hw'';go_wp2_with fail
         exact⟨⟨j+1,by omega,by omega,by simp,bnext HBB.out (below_regrown _ _ _),HE.out⟩,by simp[intOf];omega⟩
       ·have HE:=Lib.hid (HNX.out (by rw[HV2.out,decide_eq_false e1];rfl));have q:(xr != kr)=true:=bne_iff_ne.2 e1;clear HNX HFV HV2 e1;go_wp2_with fail
        refine wp_region_quiet_below (by kernel_rfl) (by kernel_rfl) ?_
        repeat (any_goals (first|go_big_quiet_step ((first|(go_at_call 106;exact Calls.regrown_of (hc1.out _ _))))|quiet_step ((first|(go_at_call 106;exact Calls.regrown_of (hc1.out _ _))))))
        refine wpQuiet_nil ?_;intro _ hw';obtain⟨⟨dq,osq⟩,hw''⟩:=hw';subst hw'';go_wp2_with fail
        exact⟨⟨j+1,by omega,by omega,by simp,bnext HBB.out (below_regrown _ _ _),HE.out⟩,by simp[intOf];omega⟩
      ·obtain rfl:j=dn:=by omega
       have HE:Hid (NoneG (pvB db ks) n (i+1) (i+1+1)):=noneG_i pv_in (by rw[HDL.out];exact HJ.out);clear hb;go_wp2_with fail
       exact⟨⟨i+1,by omega,by simp,HB.out,HE.out⟩,by simp[intOf];omega⟩
    ·obtain rfl:i=dn:=by omega
     have HE:Hid (NoneG (pvB db ks) (n+1) 0 0):=noneG_n pv_in HI.out (by rw[HDL.out];exact Nat.le_refl _);go_wp2_with fail
     exact⟨⟨n+1,by omega,by simp,HBI.out,HE.out⟩,by simp[intOf];omega⟩
  ·obtain rfl:n=kn:=by omega
   have HQ:=Lib.hid (pvN_none (l:=db) (ks:=ks) (noneG_all pv_in (by rw[HKL.out];exact HN.out)));go_wp2_with fail
   exact bodyPost_ret (v:=.tuple #[.int .i64 (-1),.int .i64 (-1),.int .i64 (-1)]) (by simp[results,Tryz.results91,go_sem]) rfl ⟨by rw[HQ.out],bnext HBW.out HBN.out⟩
end Go.Proofs.YtpedpbbiamhgdaaGreatDoor
namespace Go.Proofs.YtpedpbbiamhgdaaGreatDoor
open Go Go.Sort Go.RowKit
set_option linter.unusedVariables false
set_option linter.unusedSimpArgs false
def eqQ (d:QueryD) (t u:Int):QueryD:=if t=u then d else if t<0 then (if u<0 then d else swpQ d u t) else if u<0 then swpQ d t u else swpQ d (max t u) (min t u)
def eqOk (t u:Int):Bool:=decide (t=u) || !(decide (t<0)&&decide (u<0))
theorem box1_2 (w:World) (cs:Array Value) (T:TypeId) (o2:Obj) (i:Nat) (v:Value) (h:cs[i]?=some v):((w.alloc (.cells cs T)).alloc o2).cell? ⟨w.heap.size,i,none⟩=some v:=by simp[h]
theorem box2_2 (w:World) (o1:Obj) (cs:Array Value) (T:TypeId) (i:Nat) (v:Value) (h:cs[i]?=some v):((w.alloc o1).alloc (.cells cs T)).cell? ⟨w.heap.size+1,i,none⟩=some v:=by
 have:=World.cell?_alloc_new (w.alloc o1) cs T i;simp[h]
theorem frz2_2 (w:World) (o1:Obj) (cs:Array Value) (T:TypeId) (i:Nat):((w.alloc o1).alloc (.cells cs T)).frozen? ⟨w.heap.size+1,i,none⟩=false:=by simp
set_option maxRecDepth 100000 in
set_option maxHeartbeats 4000000 in
theorem sEquate_any (w:World) (v:Value) (d:QueryD) (t u:Int) (h:RdQuery w v d) (ht:inI t) (hu:inI u) (hs1:d.1.length≤1048576) (hs2:sizeAtomS d.2≤1048576) :
  Calls Tryz.prog 93 #[v,.int .i64 t,.int .i64 u] w (GaveQB w (eqQ d t u) (eqOk t u)):=by
 have HRP:=Lib.hid (fun W tx ux (hb:Below w.heap.size w W) (hux:inI ux)=>sReplace_any W v d tx ux (RdQuery.below h hb) hux hs1 hs2);have HRD:=Lib.hid h;have HT:=Lib.hid ht;have HU:=Lib.hid hu
 have hmm:inI (min t u):=by
  rcases Int.le_total t u with h|h
  ·rw[Int.min_eq_left h];exact ht
  ·rw[Int.min_eq_right h];exact hu
 have HMM:=Lib.hid hmm;obtain⟨a0,n0,c0,a,n,c,rfl,hi,ha⟩:=h;have hb0:∀a b,Below w.heap.size w ((w.alloc a).alloc b):=fun a b=>((Below.refl _ _).alloc (Nat.le_refl _) _).alloc (by simp) _
 have HB0:=Lib.hid hb0;clear hi ha hb0 ht hu hs1 hs2 hmm;go_enter Tryz.func93,Tryz.ntmps93
 go_upto_region 1 with fail
 obtain⟨W,hW⟩:∃W,W=(w.alloc (.cells #[.slice a0 n0 c0,.slice a n c] 29)).alloc (.cells #[.slice none 0 0,.slice none 0 0] 29):=⟨_,rfl⟩
 have HBW:Hid (Below w.heap.size w W):=by rw[hW];exact HB0.out _ _
 have q0:W.cell? ⟨w.heap.size,0,none⟩=some (.slice a0 n0 c0):=by rw[hW];exact box1_2 w _ _ _ 0 _ rfl
 have q1:W.cell? ⟨w.heap.size,1,none⟩=some (.slice a n c):=by rw[hW];exact box1_2 w _ _ _ 1 _ rfl
 have k0:W.cell? ⟨w.heap.size+1,0,none⟩=some (.slice none 0 0):=by rw[hW];exact box2_2 w _ _ _ 0 _ rfl
 have k1:W.cell? ⟨w.heap.size+1,1,none⟩=some (.slice none 0 0):=by rw[hW];exact box2_2 w _ _ _ 1 _ rfl
 have f0:W.frozen? ⟨w.heap.size+1,0,none⟩=false:=by rw[hW];exact frz2_2 w _ _ _ 0
 have f1:W.frozen? ⟨w.heap.size+1,1,none⟩=false:=by rw[hW];exact frz2_2 w _ _ _ 1
 have hsl:SlB W (w.heap.size+1):=by
  rw[hW];have:=SlB.new (w.alloc (.cells #[.slice a0 n0 c0,.slice a n c] 29)) none none 0 0 0 0 29;simpa using this
 have HSL:=Lib.hid hsl;have HSZ:Hid (w.heap.size+2=W.heap.size):=by rw[hW];exact Lib.hid (by simp)
 rw[←hW];clear hW hsl HB0;by_cases e1:t=u
 ·subst e1;have HEQ:Hid (eqQ d t t=d):=by unfold Hid eqQ;rw[if_pos rfl]
  have HOK:Hid (eqOk t t=true):=by unfold Hid eqOk;rw[decide_eq_true rfl];rfl
  go_wp2_with fail
  have hk:OnlyAt [w.heap.size+1] W ((W.setCell ⟨w.heap.size+1,0,none⟩ (.slice a0 n0 c0)).setCell ⟨w.heap.size+1,1,none⟩ (.slice a n c)):=(OnlyAt.setCell W _ _ _).same (OnlyAt.setCell _ _ _ _);exact bodyPost_ret (v:=.tuple #[.agg #[.slice a0 n0 c0,.slice a n c],.bool true]) (by simp[results,Tryz.results93,go_sem,k0,k1]) rfl ⟨_,_,_,_,_,_,by rw[HOK.out],by rw[HEQ.out];exact (HRD.out.below HBW.out).offS hk HSL.out,OnlyAt.below HBW.out hk (fun x hx=>by simp at hx;omega)⟩
 ·have z1:(t==u)=false:=beq_eq_false_iff_ne.2 e1;by_cases e2:t<0
  ·by_cases e3:u<0
   ·have HEQ:Hid (eqQ d t u=d):=by unfold Hid eqQ;rw[if_neg e1,if_pos e2,if_pos e3]
    have HOK:Hid (eqOk t u=false):=by unfold Hid eqOk;rw[decide_eq_false e1,decide_eq_true e2,decide_eq_true e3];rfl
    clear e1;go_wp2_with fail
    have hk:OnlyAt [w.heap.size+1] W ((W.setCell ⟨w.heap.size+1,0,none⟩ (.slice a0 n0 c0)).setCell ⟨w.heap.size+1,1,none⟩ (.slice a n c)):=(OnlyAt.setCell W _ _ _).same (OnlyAt.setCell _ _ _ _);exact bodyPost_ret (v:=.tuple #[.agg #[.slice a0 n0 c0,.slice a n c],.bool false]) (by simp[results,Tryz.results93,go_sem,k0,k1]) rfl ⟨_,_,_,_,_,_,by rw[HOK.out],by rw[HEQ.out];exact (HRD.out.below HBW.out).offS hk HSL.out,OnlyAt.below HBW.out hk (fun x hx=>by simp at hx;omega)⟩
   ·have HEQ:Hid (eqQ d t u=swpQ d u t):=by unfold Hid eqQ;rw[if_neg e1,if_pos e2,if_neg e3]
    have HOK:Hid (eqOk t u=true):=by unfold Hid eqOk;rw[decide_eq_false e1,decide_eq_true e2,decide_eq_false e3];rfl
    clear e1;go_wp2_with fail
    refine (HRP.out W u t HBW.out HT.out).mono ?_;rintro e wc ⟨r,rfl,hr,hbc⟩;replace f0:=frok hbc k0 f0;replace f1:=frok hbc k1 f1;replace k0:=cellk hbc k0;replace k1:=cellk hbc k1;have HSLc:=Lib.hid (HSL.out.below (by have:=HSZ.out;omega) hbc);have HBc:=Lib.hid (bnext HBW.out hbc);have HRc:=Lib.hid hr;obtain⟨ra,rn,rc,ra',rn',rc',rfl,_,_⟩:=hr;clear hbc q0 q1;go_wp2_with fail
    have hk:OnlyAt [w.heap.size+1] wc ((wc.setCell ⟨w.heap.size+1,0,none⟩ (.slice ra rn rc)).setCell ⟨w.heap.size+1,1,none⟩ (.slice ra' rn' rc')):=(OnlyAt.setCell wc _ _ _).same (OnlyAt.setCell _ _ _ _);exact bodyPost_ret (v:=.tuple #[.agg #[.slice ra rn rc,.slice ra' rn' rc'],.bool true]) (by simp[results,Tryz.results93,go_sem,k0,k1]) rfl ⟨_,_,_,_,_,_,by rw[HOK.out],by rw[HEQ.out];exact HRc.out.offS hk HSLc.out,OnlyAt.below HBc.out hk (fun x hx=>by simp at hx;omega)⟩
  ·by_cases e3:u<0
   ·have HEQ:Hid (eqQ d t u=swpQ d t u):=by unfold Hid eqQ;rw[if_neg e1,if_neg e2,if_pos e3]
    have HOK:Hid (eqOk t u=true):=by unfold Hid eqOk;rw[decide_eq_false e1,decide_eq_false e2];rfl
    clear e1;go_wp2_with fail
    refine (HRP.out W t u HBW.out HU.out).mono ?_;rintro e wc ⟨r,rfl,hr,hbc⟩;replace f0:=frok hbc k0 f0;replace f1:=frok hbc k1 f1;replace k0:=cellk hbc k0;replace k1:=cellk hbc k1;have HSLc:=Lib.hid (HSL.out.below (by have:=HSZ.out;omega) hbc);have HBc:=Lib.hid (bnext HBW.out hbc);have HRc:=Lib.hid hr;obtain⟨ra,rn,rc,ra',rn',rc',rfl,_,_⟩:=hr;clear hbc q0 q1;go_wp2_with fail
    have hk:OnlyAt [w.heap.size+1] wc ((wc.setCell ⟨w.heap.size+1,0,none⟩ (.slice ra rn rc)).setCell ⟨w.heap.size+1,1,none⟩ (.slice ra' rn' rc')):=(OnlyAt.setCell wc _ _ _).same (OnlyAt.setCell _ _ _ _);exact bodyPost_ret (v:=.tuple #[.agg #[.slice ra rn rc,.slice ra' rn' rc'],.bool true]) (by simp[results,Tryz.results93,go_sem,k0,k1]) rfl ⟨_,_,_,_,_,_,by rw[HOK.out],by rw[HEQ.out];exact HRc.out.offS hk HSLc.out,OnlyAt.below HBc.out hk (fun x hx=>by simp at hx;omega)⟩
   ·rcases Int.lt_or_gt_of_ne e1 with e4|e4
    ·have HEQ:Hid (eqQ d t u=swpQ d u t):=by unfold Hid eqQ;rw[if_neg e1,if_neg e2,if_neg e3,Int.max_eq_right (Int.le_of_lt e4),Int.min_eq_left (Int.le_of_lt e4)]
     have HOK:Hid (eqOk t u=true):=by unfold Hid eqOk;rw[decide_eq_false e1,decide_eq_false e2];rfl
     have e5:¬u<t:=by omega
     clear e1;go_wp2_with fail
     try rw[Int.max_eq_right (Int.le_of_lt e4),Int.min_eq_left (Int.le_of_lt e4)]
     refine (HRP.out W u t HBW.out HT.out).mono ?_;rintro e wc ⟨r,rfl,hr,hbc⟩;replace f0:=frok hbc k0 f0;replace f1:=frok hbc k1 f1;replace k0:=cellk hbc k0;replace k1:=cellk hbc k1;have HSLc:=Lib.hid (HSL.out.below (by have:=HSZ.out;omega) hbc);have HBc:=Lib.hid (bnext HBW.out hbc);have HRc:=Lib.hid hr;obtain⟨ra,rn,rc,ra',rn',rc',rfl,_,_⟩:=hr;clear hbc q0 q1;go_wp2_with fail
     have hk:OnlyAt [w.heap.size+1] wc ((wc.setCell ⟨w.heap.size+1,0,none⟩ (.slice ra rn rc)).setCell ⟨w.heap.size+1,1,none⟩ (.slice ra' rn' rc')):=(OnlyAt.setCell wc _ _ _).same (OnlyAt.setCell _ _ _ _);exact bodyPost_ret (v:=.tuple #[.agg #[.slice ra rn rc,.slice ra' rn' rc'],.bool true]) (by simp[results,Tryz.results93,go_sem,k0,k1]) rfl ⟨_,_,_,_,_,_,by rw[HOK.out],by rw[HEQ.out];exact HRc.out.offS hk HSLc.out,OnlyAt.below HBc.out hk (fun x hx=>by simp at hx;omega)⟩
    ·have HEQ:Hid (eqQ d t u=swpQ d t u):=by unfold Hid eqQ;rw[if_neg e1,if_neg e2,if_neg e3,Int.max_eq_left (Int.le_of_lt e4),Int.min_eq_right (Int.le_of_lt e4)]
     have HOK:Hid (eqOk t u=true):=by unfold Hid eqOk;rw[decide_eq_false e1,decide_eq_false e2];rfl
     have e5:¬t<u:=by omega
     clear e1;go_wp2_with fail
     try rw[Int.max_eq_left (Int.le_of_lt e4),Int.min_eq_right (Int.le_of_lt e4)]
     refine (HRP.out W t u HBW.out HU.out).mono ?_;rintro e wc ⟨r,rfl,hr,hbc⟩;replace f0:=frok hbc k0 f0;replace f1:=frok hbc k1 f1;replace k0:=cellk hbc k0;replace k1:=cellk hbc k1;have HSLc:=Lib.hid (HSL.out.below (by have:=HSZ.out;omega) hbc);have HBc:=Lib.hid (bnext HBW.out hbc);have HRc:=Lib.hid hr;obtain⟨ra,rn,rc,ra',rn',rc',rfl,_,_⟩:=hr;clear hbc q0 q1;go_wp2_with fail
     have hk:OnlyAt [w.heap.size+1] wc ((wc.setCell ⟨w.heap.size+1,0,none⟩ (.slice ra rn rc)).setCell ⟨w.heap.size+1,1,none⟩ (.slice ra' rn' rc')):=(OnlyAt.setCell wc _ _ _).same (OnlyAt.setCell _ _ _ _);exact bodyPost_ret (v:=.tuple #[.agg #[.slice ra rn rc,.slice ra' rn' rc'],.bool true]) (by simp[results,Tryz.results93,go_sem,k0,k1]) rfl ⟨_,_,_,_,_,_,by rw[HOK.out],by rw[HEQ.out];exact HRc.out.offS hk HSLc.out,OnlyAt.below HBc.out hk (fun x hx=>by simp at hx;omega)⟩
theorem least_ex {P:Nat→Prop} (h:∃f,P f):∃f,P f∧∀g,P g→f≤g:=by
 obtain⟨f,hf⟩:=h
 induction f using Nat.strongRecOn with
 |_ f ih=>
  by_cases hx:∃g,g<f∧P g
  ·obtain⟨g,h1,h2⟩:=hx;exact ih g h1 h2
  ·exact⟨f,hf,fun g hg=>by
    rcases Nat.lt_or_ge g f with h|h
    ·exact absurd ⟨g,h,hg⟩ hx
    ·exact h⟩
open Classical in
noncomputable def leastN (P:Nat→Prop):Nat:=if h:∃f,P f then Classical.choose (least_ex h) else 0
theorem leastN_spec {P:Nat→Prop} (h:∃f,P f):P (leastN P):=by
 unfold leastN;rw[dif_pos h];exact (Classical.choose_spec (least_ex h)).1
theorem leastN_le {P:Nat→Prop} {f:Nat} (h:P f):leastN P≤f:=by
 unfold leastN;rw[dif_pos ⟨f,h⟩];exact (Classical.choose_spec (least_ex ⟨f,h⟩)).2 f h
def muL (l:List Int):Nat:=(l.map (fun x=>(x+1).toNat)).sum
def muA (l:List AtomD):Nat:=(l.map (fun a=>muL a.2)).sum
def muQ (d:QueryD):Nat:=muL d.1+muA d.2
theorem muL_le (l:List Int) {t u:Int} (h:u<t):muL (swapL l t u)≤muL l:=by
 induction l with
 |nil=>exact Nat.le_refl _
 |cons a l ih=>
  unfold muL swapL at *;simp only[List.map_cons,List.sum_cons]
  split<;>omega
theorem muL_lt {l:List Int} {t u:Int} (h:u<t) (h0:0≤t) (hm:t∈l):muL (swapL l t u)<muL l:=by
 induction l with
 |nil=>cases hm
 |cons a l ih=>
  have hl:=muL_le l h;unfold muL swapL at *;simp only[List.map_cons,List.sum_cons];rcases List.mem_cons.1 hm with e|e
  ·subst e;rw[if_pos rfl];omega
  ·have:=ih e
   split<;>omega
theorem muA_le (l:List AtomD) {t u:Int} (h:u<t):muA (l.map (swpA t u))≤muA l:=by
 induction l with
 |nil=>exact Nat.le_refl _
 |cons a l ih=>
  have:=muL_le a.2 h;unfold muA at *;simp only[List.map_cons,List.sum_cons];have e:(swpA t u a).2=swapL a.2 t u:=rfl;rw[e];omega
theorem muA_lt {l:List AtomD} {t u:Int} {a:AtomD} (h:u<t) (h0:0≤t) (ha:a∈l) (hm:t∈a.2):muA (l.map (swpA t u))<muA l:=by
 induction l with
 |nil=>cases ha
 |cons b l ih=>
  have h1:=muA_le l h;have h2:=muL_le b.2 h;have e:(swpA t u b).2=swapL b.2 t u:=rfl;rcases List.mem_cons.1 ha with h3|h3
  ·subst h3;have:=muL_lt h h0 hm;unfold muA at *;simp only[List.map_cons,List.sum_cons];rw[e];omega
  ·have:=ih h3;unfold muA at *;simp only[List.map_cons,List.sum_cons];rw[e];omega
theorem muQ_lt {d:QueryD} {t u:Int} {a:AtomD} (h:u<t) (h0:0≤t) (ha:a∈d.2) (hm:t∈a.2):muQ (swpQ d t u)<muQ d:=by
 have h1:=muL_le d.1 h;have h2:=muA_lt h h0 ha hm;unfold muQ swpQ;dsimp only;omega
theorem eqQ_mu {d:QueryD} {t u:Int} {a b:AtomD} (hne:t≠u) (hok:eqOk t u=true) (ha:a∈d.2) (hm:t∈a.2) (hb:b∈d.2) (hn:u∈b.2):muQ (eqQ d t u)<muQ d:=by
 unfold eqQ;rw[if_neg hne];by_cases h1:t<0
 ·rw[if_pos h1];by_cases h2:u<0
  ·unfold eqOk at hok;rw[decide_eq_false hne,decide_eq_true h1,decide_eq_true h2] at hok;cases hok
  ·rw[if_neg h2];exact muQ_lt (by omega) (by omega) hb hn
 ·rw[if_neg h1];by_cases h2:u<0
  ·rw[if_pos h2];exact muQ_lt (by omega) (by omega) ha hm
  ·rw[if_neg h2];rcases Int.lt_or_gt_of_ne hne with h|h
   ·rw[Int.max_eq_right (Int.le_of_lt h),Int.min_eq_left (Int.le_of_lt h)];exact muQ_lt h (by omega) hb hn
   ·rw[Int.max_eq_left (Int.le_of_lt h),Int.min_eq_right (Int.le_of_lt h)];exact muQ_lt h (by omega) ha hm
theorem swpQ_size (d:QueryD) (t u:Int):sizeQuery (swpQ d t u)=sizeQuery d:=by
 have h1:(swapL d.1 t u).length=d.1.length:=swapL_len _ _ _
 have h2:∀l:List AtomD,sumArgs (l.map (swpA t u))=sumArgs l:=by
  intro l
  induction l with
  |nil=>rfl
  |cons a l ih=>
   have e:(swpA t u a).2.length=a.2.length:=swapL_len _ _ _;unfold sumArgs at *;simp only[List.map_cons,List.sum_cons] at *;rw[e,ih]
 have h3:sizeAtomS (d.2.map (swpA t u))=sizeAtomS d.2:=by unfold sizeAtomS;rw[h2,List.length_map]
 unfold sizeQuery swpQ;dsimp only;rw[h1,h3]
theorem eqQ_size (d:QueryD) (t u:Int):sizeQuery (eqQ d t u)=sizeQuery d:=by
 unfold eqQ
 (repeat' split)<;>first|rfl|exact swpQ_size _ _ _
theorem dif_ne {a b:List Int} (hl:a.length=b.length) (hn:a≠b):dif a b<a.length∧a.getD (dif a b) 0≠b.getD (dif a b) 0:=by
 induction a generalizing b with
 |nil=>cases b with
  |nil=>exact absurd rfl hn
  |cons=>cases hl
 |cons x a ih=>cases b with
  |nil=>cases hl
  |cons y b=>
   unfold dif;by_cases h:x=y
   ·subst h;rw[if_pos rfl];have:=ih (b:=b) (by simpa using hl) (fun e=>hn (by rw[e]));exact⟨by simp;omega,by simpa using this.2⟩
   ·rw[if_neg h];exact⟨by simp,by simpa using h⟩
theorem pvN_or (l ks:List AtomD):pvN l ks=(-1,-1,-1)∨∃(i j:Nat) (x y:AtomD),pvN l ks=((i:Int),(j:Int),(dif (argsAt l i) (argsAt l j):Int))∧l[i]?=some x∧l[j]?=some y∧argsAt l i=x.2∧argsAt l j=y.2∧x.2.length=y.2.length∧x.2≠y.2:=by
 by_cases h:∃t:Nat × Nat × Nat,FirstG (pvB l ks) t.1 t.2.1 t.2.2
 ·obtain⟨⟨n,i,j⟩,h⟩:=h;refine .inr ?_;have hv:=h.1;obtain⟨h1,h2,h3⟩:=pv_in _ _ _ hv;dsimp only at *;have hx:l[i]?=some l[i]:=List.getElem?_eq_getElem h2;have hy:l[j]?=some l[j]:=List.getElem?_eq_getElem h3;rw[pv_at (List.getElem?_eq_getElem h1) hx hy] at hv;simp only[Bool.and_eq_true,decide_eq_true_eq,Bool.not_eq_true',decide_eq_false_iff_not] at hv;exact⟨i,j,_,_,pvN_at h,hx,hy,argsAt_of hx,argsAt_of hy,hv.2.2.1,hv.2.2.2.2⟩
 ·refine .inl ?_;unfold pvN;rw[dif_neg h]
open Classical in
noncomputable def chF (ks:List AtomD):Nat→QueryD→Option QueryD
 |0,_=>none
 |f+1,d=>if (pvN d.2 ks).1<0 then some (ddQ d) else if eqOk ((argsAt d.2 (pvN d.2 ks).1.toNat).getD (pvN d.2 ks).2.2.toNat 0) ((argsAt d.2 (pvN d.2 ks).2.1.toNat).getD (pvN d.2 ks).2.2.toNat 0)=true then chF ks f (eqQ d ((argsAt d.2 (pvN d.2 ks).1.toNat).getD (pvN d.2 ks).2.2.toNat 0) ((argsAt d.2 (pvN d.2 ks).2.1.toNat).getD (pvN d.2 ks).2.2.toNat 0)) else none
noncomputable def chQ (ks:List AtomD) (d:QueryD):Option QueryD:=chF ks (muQ d+1) d
theorem mem_getD {l:List Int} {p:Nat} (h:p<l.length):l.getD p 0∈l:=by
 rw[List.getD_eq_getElem?_getD,List.getElem?_eq_getElem h];exact List.getElem_mem h
theorem mem_at13 {l:List AtomD} {i:Nat} {x:AtomD} (h:l[i]?=some x):x∈l:=by
 obtain⟨hi,rfl⟩:=List.getElem?_eq_some_iff.1 h;exact List.getElem_mem hi
theorem pv_mu {d:QueryD} {ks:List AtomD} (h:¬(pvN d.2 ks).1<0) {t u:Int} (ht:t=(argsAt d.2 (pvN d.2 ks).1.toNat).getD (pvN d.2 ks).2.2.toNat 0) (hu:u=(argsAt d.2 (pvN d.2 ks).2.1.toNat).getD (pvN d.2 ks).2.2.toNat 0) (hok:eqOk t u=true):muQ (eqQ d t u)<muQ d:=by
 rcases pvN_or d.2 ks with e|⟨i,j,x,y,e,hx,hy,ex,ey,hl,hne⟩
 ·rw[e] at h;exact absurd (by decide) h
 ·rw[e] at ht hu;dsimp only at ht hu;rw[Int.toNat_natCast,Int.toNat_natCast,ex,ey] at ht hu;obtain⟨h1,h2⟩:=dif_ne hl hne;rw[←ht,←hu] at h2;exact eqQ_mu h2 hok (mem_at13 hx) (by rw[ht];exact mem_getD h1) (mem_at13 hy) (by rw[hu];exact mem_getD (by rw[←hl];exact h1))
theorem chF_same (ks:List AtomD) (f:Nat):∀(g:Nat) (d:QueryD),muQ d<f→muQ d<g→chF ks f d=chF ks g d:=by
 induction f with
 |zero=>intro g d h;omega
 |succ f ih=>
  intro g d h1 h2
  cases g with
  |zero=>omega
  |succ g=>
   unfold chF;by_cases hp:(pvN d.2 ks).1<0
   ·rw[if_pos hp,if_pos hp]
   ·rw[if_neg hp,if_neg hp]
    split
    ·rename_i hok
     have:=pv_mu hp rfl rfl hok;exact ih g _ (by omega) (by omega)
    ·rfl
theorem chQ_end {ks:List AtomD} {d:QueryD} (h:(pvN d.2 ks).1<0):chQ ks d=some (ddQ d):=by
 unfold chQ chF;rw[if_pos h]
theorem chQ_no {ks:List AtomD} {d:QueryD} {i j p:Nat} {t u:Int} (h:pvN d.2 ks=((i:Int),(j:Int),(p:Int))) (ht:(argsAt d.2 i).getD p 0=t) (hu:(argsAt d.2 j).getD p 0=u) (hok:eqOk t u=false):chQ ks d=none:=by
 unfold chQ chF;rw[h];dsimp only;rw[if_neg (by omega),Int.toNat_natCast,Int.toNat_natCast,Int.toNat_natCast,ht,hu,if_neg (by rw[hok];decide)]
theorem chQ_go {ks:List AtomD} {d:QueryD} {i j p:Nat} {t u:Int} (h:pvN d.2 ks=((i:Int),(j:Int),(p:Int))) (ht:(argsAt d.2 i).getD p 0=t) (hu:(argsAt d.2 j).getD p 0=u) (hok:eqOk t u=true):chQ ks (eqQ d t u)=chQ ks d∧muQ (eqQ d t u)<muQ d:=by
 have hm:muQ (eqQ d t u)<muQ d:=pv_mu (d:=d) (ks:=ks) (by rw[h];dsimp only;omega) (by rw[h];dsimp only;rw[Int.toNat_natCast,Int.toNat_natCast,ht]) (by rw[h];dsimp only;rw[Int.toNat_natCast,Int.toNat_natCast,hu]) hok;refine⟨?_,hm⟩
 have e:chQ ks d=chF ks (muQ d) (eqQ d t u):=by
  unfold chQ
  conv=>lhs;unfold chF
  rw[h];dsimp only;rw[if_neg (by omega),Int.toNat_natCast,Int.toNat_natCast,Int.toNat_natCast,ht,hu,if_pos hok]
 rw[e];exact chF_same ks _ _ _ (by omega) hm
end Go.Proofs.YtpedpbbiamhgdaaGreatDoor
namespace Go.Proofs.YtpedpbbiamhgdaaGreatDoor
open Go Go.Sort Go.RowKit
set_option linter.unusedVariables false
set_option linter.unusedSimpArgs false
theorem zeroQ13 (w:World):RdQuery w (.agg #[.slice none 0 0,.slice none 0 0]) ([],[]):=⟨none,0,0,none,0,0,rfl,Ints.nil w,none,0,0,rfl,rfl,Nat.le_refl _,Nat.zero_le _,fun h=>by omega⟩
theorem SlB.set13 {w:World} {B o:Nat} {u:Value} {a:Option Addr} {n c:Nat} (h:SlB w B) (hc:w.cell? ⟨B,o,none⟩=some u):SlB (w.setCell ⟨B,o,none⟩ (.slice a n c)) B:=by
 intro o' x hx;by_cases he:o'=o
 ·subst he;rw[World.cell?_setCell_same _ _ _ hc] at hx
  cases hx;exact⟨_,_,_,rfl⟩
 ·rw[World.cell?_setCell_other _ _ _ _ (by intro e;cases e;exact he rfl)] at hx;exact h _ _ hx
def ChS (W:World) (ks:List AtomD) (d q:QueryD) (B:Nat) (wr:World) (x y:Value):Prop:=
 wr.cell? ⟨B,0,none⟩=some x∧wr.cell? ⟨B,1,none⟩=some y∧wr.frozen? ⟨B,0,none⟩=false∧wr.frozen? ⟨B,1,none⟩=false∧RdQuery wr (.agg #[x,y]) q∧SlB wr B∧Below W.heap.size W wr∧B<wr.heap.size∧chQ ks q=chQ ks d∧sizeQuery q=sizeQuery d
theorem ChS.below {W:World} {ks:List AtomD} {d q:QueryD} {B:Nat} {wr w':World} {x y:Value} (h:ChS W ks d q B wr x y) (hb:Below wr.heap.size wr w'):ChS W ks d q B w' x y:=by
 obtain⟨h1,h2,h3,h4,h5,h6,h7,h8,h9⟩:=h;exact⟨cellk hb h1,cellk hb h2,frok hb h1 h3,frok hb h2 h4,h5.below hb,h6.below h8 hb,bnext h7 hb,Nat.lt_of_lt_of_le h8 hb.size,h9⟩
theorem ChS.lay {W:World} {ks:List AtomD} {d q q':QueryD} {B:Nat} {wr:World} {x y:Value} {a a':Option Addr} {n c n' c':Nat} (h:ChS W ks d q B wr x y) (hB:W.heap.size≤B) (hr:RdQuery wr (.agg #[.slice a n c,.slice a' n' c']) q') (hm:chQ ks q'=chQ ks d) (hz:sizeQuery q'=sizeQuery d) :
  ChS W ks d q' B ((wr.setCell ⟨B,0,none⟩ (.slice a n c)).setCell ⟨B,1,none⟩ (.slice a' n' c')) (.slice a n c) (.slice a' n' c'):=by
 obtain⟨h1,h2,h3,h4,h5,h6,h7,h8,h9⟩:=h;have hk:OnlyAt [B] wr ((wr.setCell ⟨B,0,none⟩ (.slice a n c)).setCell ⟨B,1,none⟩ (.slice a' n' c')):=(OnlyAt.setCell wr _ _ _).same (OnlyAt.setCell _ _ _ _);have e1:(wr.setCell ⟨B,0,none⟩ (.slice a n c)).cell? ⟨B,0,none⟩=some (.slice a n c):=World.cell?_setCell_same _ _ _ h1;have e2:(wr.setCell ⟨B,0,none⟩ (.slice a n c)).cell? ⟨B,1,none⟩=some y:=by rw[World.cell?_setCell_other _ _ _ _ (by intro e;cases e)];exact h2
 refine⟨?_,World.cell?_setCell_same _ _ _ e2,by simpa using h3,by simpa using h4,hr.offS hk h6,(h6.set13 h1).set13 e2,OnlyAt.below h7 hk (fun b hb=>by simp at hb;omega),Nat.lt_of_lt_of_le h8 hk.size,hm,hz⟩;rw[World.cell?_setCell_other _ _ _ _ (by intro e;cases e)];exact e1
noncomputable def chM (W:World) (ks:List AtomD) (d:QueryD) (B:Nat) (wr:World):Nat:=leastN (fun f=>∃(q:QueryD) (xa:Option Addr) (xn xc:Nat) (ya:Option Addr) (yn yc:Nat),ChS W ks d q B wr (.slice xa xn xc) (.slice ya yn yc)∧muQ q=f)
theorem chM_spec {W:World} {ks:List AtomD} {d:QueryD} {B:Nat} {wr:World} (h:∃(q:QueryD) (xa:Option Addr) (xn xc:Nat) (ya:Option Addr) (yn yc:Nat),ChS W ks d q B wr (.slice xa xn xc) (.slice ya yn yc)):∃(q:QueryD) (xa:Option Addr) (xn xc:Nat) (ya:Option Addr) (yn yc:Nat),ChS W ks d q B wr (.slice xa xn xc) (.slice ya yn yc)∧muQ q=chM W ks d B wr:=by
 obtain⟨q,xa,xn,xc,ya,yn,yc,h⟩:=h;exact leastN_spec (P:=fun f=>∃(q:QueryD) (xa:Option Addr) (xn xc:Nat) (ya:Option Addr) (yn yc:Nat),ChS W ks d q B wr (.slice xa xn xc) (.slice ya yn yc)∧muQ q=f) ⟨_,q,xa,xn,xc,ya,yn,yc,h,rfl⟩
theorem chM_le {W:World} {ks:List AtomD} {d q:QueryD} {B:Nat} {wr:World} {xa:Option Addr} {xn xc:Nat} {ya:Option Addr} {yn yc:Nat} (h:ChS W ks d q B wr (.slice xa xn xc) (.slice ya yn yc)):chM W ks d B wr≤muQ q:=leastN_le ⟨q,xa,xn,xc,ya,yn,yc,h,rfl⟩
set_option maxRecDepth 100000 in
set_option maxHeartbeats 8000000 in
theorem sChase_any (w:World) (v vk:Value) (d:QueryD) (ks:List AtomD) (h:RdQuery w v d) (hks:RdAtomS w vk ks) (hz:sizeQuery d≤1048576) :
  Calls Tryz.prog 41 #[v,vk] w (GaveQB w ((chQ ks d).getD ([],[])) (chQ ks d).isSome):=by
 have hz1:d.1.length≤1048576:=by unfold sizeQuery at hz;omega
 have hz2:sizeAtomS d.2≤1048576:=by unfold sizeQuery at hz;omega
 have HCP:=Lib.hid (fun W (hb:Below w.heap.size w W)=>sCopy_any W v d (RdQuery.below h hb) hz1 hz2);have HPR:=Lib.hid (fun W x q (hb:Below w.heap.size w W) (hx:RdQuery W x q)=>sPair13_any W x vk q ks hx (RdAtomS.below hks hb));have HEQ:=Lib.hid (fun W x q t u (hx:RdQuery W x q) (ht:inI t) (hu:inI u) (hq:sizeQuery q=sizeQuery d)=>sEquate_any W x q t u hx ht hu (by unfold sizeQuery at hq hz;omega) (by unfold sizeQuery at hq hz;omega));have HDD:=Lib.hid (fun W x q (hx:RdQuery W x q) (hq:sizeQuery q=sizeQuery d)=>sDedupe_any W x q hx (by omega));obtain⟨ka,kn,kc,rfl,hks⟩:=hks;obtain⟨a0,h0,c0,a,n,c,rfl,hi,ha⟩:=h;have hb0:∀a b,Below w.heap.size w ((w.alloc a).alloc b):=fun a b=>((Below.refl _ _).alloc (Nat.le_refl _) _).alloc (by simp) _
 have HB0:=Lib.hid hb0;clear hks hi ha hb0 hz hz1 hz2;go_enter Tryz.func41,Tryz.ntmps41
 go_wp2_with fail
 obtain⟨W,hW⟩:∃W,W=(w.alloc (.cells #[.slice a0 h0 c0,.slice a n c] 29)).alloc (.cells #[.slice none 0 0,.slice none 0 0] 29):=⟨_,rfl⟩
 have HBW:Hid (Below w.heap.size w W):=by rw[hW];exact HB0.out _ _
 have k0:W.cell? ⟨w.heap.size+1,0,none⟩=some (.slice none 0 0):=by rw[hW];exact box2_2 w _ _ _ 0 _ rfl
 have k1:W.cell? ⟨w.heap.size+1,1,none⟩=some (.slice none 0 0):=by rw[hW];exact box2_2 w _ _ _ 1 _ rfl
 have f0:W.frozen? ⟨w.heap.size+1,0,none⟩=false:=by rw[hW];exact frz2_2 w _ _ _ 0
 have f1:W.frozen? ⟨w.heap.size+1,1,none⟩=false:=by rw[hW];exact frz2_2 w _ _ _ 1
 have hsl:SlB W (w.heap.size+1):=by
  rw[hW];have:=SlB.new (w.alloc (.cells #[.slice a0 h0 c0,.slice a n c] 29)) none none 0 0 0 0 29;simpa using this
 have hsz:W.heap.size=w.heap.size+2:=by rw[hW];simp
 rw[←hW];clear hW;refine (HCP.out _ HBW.out).mono ?_;rintro e W1 ⟨ra,rn,rc,ra',rn',rc',rfl,hr,hbb⟩;have HSR:=Lib.hid (hsl.below (by omega) hbb);replace f0:=frok hbb k0 f0;replace f1:=frok hbb k1 f1;replace k0:=cellk hbb k0;replace k1:=cellk hbb k1;have HB1:=Lib.hid (bnext HBW.out hbb);have HSZ:Hid (w.heap.size+2≤W1.heap.size):=by have:=hbb.size;exact Lib.hid (by omega)
 have HR1:=Lib.hid hr;clear hbb hr hsl hsz;go_wp2_with fail
 obtain⟨W2,hW⟩:∃W2,W2=W1.alloc (.cells #[.slice ra rn rc,.slice ra' rn' rc'] 29):=⟨_,rfl⟩
 have HM0:Hid (ChS W1 ks d d W1.heap.size W2 (.slice ra rn rc) (.slice ra' rn' rc')):=by
  rw[hW];exact Lib.hid ⟨by simp,by simp,by simp,by simp,HR1.out.below (below_alloc _ _),SlB.new _ _ _ _ _ _ _ _,below_alloc _ _,by simp,rfl,rfl⟩
 rw[←hW];obtain⟨B,hB⟩:∃B,B=W1.heap.size:=⟨_,rfl⟩
 have HBB:=Lib.hid hB;rw[←hB] at HM0 ⊢;have K0:=Lib.hid k0;have K1:=Lib.hid k1;have F0:=Lib.hid f0;have F1:=Lib.hid f1;clear hW hB k0 k1 f0 f1
 go_loopw [7] (fun _ wr=>∃(q:QueryD) (xa:Option Addr) (xn xc:Nat) (ya:Option Addr) (yn yc:Nat),ChS W1 ks d q B wr (.slice xa xn xc) (.slice ya yn yc)) (fun _ wr=>chM W1 ks d B wr)
 case atStart=>exact⟨d,_,_,_,_,_,_,HM0.out⟩
 case round=>
  obtain⟨q,xa,xn,xc,ya,yn,yc,hM,hmu⟩:=chM_spec hrel;clear hrel;have HM:=Lib.hid hM;have HMU:=Lib.hid hmu;obtain⟨x0,x1,g0,g1,hx,hxs,hbw,hBl,hms,hqz⟩:=hM;have HXN:=Lib.hid hx;have HMS:=Lib.hid hms;have HQZ:=Lib.hid hqz;have hBsz:w.heap.size+2≤B:=by have:=HSZ.out;have:=HBB.out;omega
  have HBN:=Lib.hid (bnext HB1.out hbw);have k0:=cellk hbw K0.out;have k1:=cellk hbw K1.out;have f0:=frok hbw K0.out F0.out;have f1:=frok hbw K1.out F1.out;have HSRr:=Lib.hid (HSR.out.below (by have:=HSZ.out;omega) hbw);have hpc:=HPR.out wr _ q HBN.out HXN.out;rcases pvN_or q.2 ks with hpv|⟨i,j,px,py,hpv,hpx,hpy,hax,hay,hpl,hpn⟩
  ·have HEND:Hid (chQ ks d=some (ddQ q)):=by rw[←HMS.out];exact chQ_end (by rw[hpv];decide)
   rw[hpv] at hpc;dsimp only at hpc;have HPC:=Lib.hid hpc;clear hpc hpv hx hms hqz hxs hmu hbw g0 g1;go_wp2_with fail
   refine HPC.out.mono ?_;rintro e w4 ⟨rfl,hbb⟩;replace x0:=cellk hbb x0;replace x1:=cellk hbb x1;replace f0:=frok hbb k0 f0;replace f1:=frok hbb k1 f1;replace k0:=cellk hbb k0;replace k1:=cellk hbb k1;replace HXN:=Lib.hid (HXN.out.below hbb);replace HSRr:=Lib.hid (HSRr.out.below (by have:=HBN.out.size;have:=HBB.out;have:=HSZ.out;omega) hbb);replace HBN:=Lib.hid (bnext HBN.out hbb);have hB4:=hbb.size;clear hbb;go_wp2_with fail
   refine (HDD.out w4 _ q HXN.out HQZ.out).mono ?_;rintro e w5 ⟨za,zn,zc,ua,un,uc,rfl,hzr,hbb⟩;replace f0:=frok hbb k0 f0;replace f1:=frok hbb k1 f1;replace k0:=cellk hbb k0;replace k1:=cellk hbb k1;have HZR:=Lib.hid hzr;replace HSRr:=Lib.hid (HSRr.out.below (by omega) hbb);replace HBN:=Lib.hid (bnext HBN.out hbb);clear hbb hzr x0 x1;go_wp2_with fail
   have hk:OnlyAt [w.heap.size+1] w5 ((w5.setCell ⟨w.heap.size+1,0,none⟩ (.slice za zn zc)).setCell ⟨w.heap.size+1,1,none⟩ (.slice ua un uc)):=(OnlyAt.setCell w5 _ _ _).same (OnlyAt.setCell _ _ _ _);exact bodyPost_ret (v:=.tuple #[.agg #[.slice za zn zc,.slice ua un uc],.bool true]) (by simp[results,Tryz.results41,go_sem,k0,k1]) rfl ⟨_,_,_,_,_,_,by rw[HEND.out];rfl,by rw[HEND.out];exact HZR.out.offS hk HSRr.out,OnlyAt.below HBN.out hk (fun x hx=>by simp at hx;omega)⟩
  ·obtain⟨p,hp⟩:∃p,dif (argsAt q.2 i) (argsAt q.2 j)=p:=⟨_,rfl⟩
   obtain⟨hp1,hp2⟩:=dif_ne hpl hpn;rw[hp] at hpv;rw[←hax,←hay,hp] at hp2;rw[←hax,←hay,hp,hax] at hp1;rw[hpv] at hpc;dsimp only at hpc;have HPC:=Lib.hid hpc;obtain⟨_,_,_,ya',yn',yc',hagg,_,hya⟩:=hx
   cases hagg;obtain⟨hyl,hyn,hym,hyc⟩:=hya.at
   have hiy:i<yn:=by rw[←hyl];exact (List.getElem?_eq_some_iff.1 hpx).1
   have hjy:j<yn:=by rw[←hyl];exact (List.getElem?_eq_some_iff.1 hpy).1
   obtain⟨b,off,rfl,hyw,hyc⟩:=hyc (by omega);obtain⟨ea,em,ec,_,ec1,_,eints⟩:=atomAt (n:=yn) hyc i px hpx;obtain⟨fa,fm,fc,_,fc1,_,fints⟩:=atomAt (n:=yn) hyc j py hpy;have hti:inI ((argsAt q.2 i).getD p 0):=by rw[hax];exact inI_getD eints.1 p
   have htj:inI ((argsAt q.2 j).getD p 0):=by rw[hay];exact inI_getD fints.1 p
   obtain⟨_,_,_,e1,hel,_,hmx,hcx⟩:=eints.cases
   cases e1;obtain⟨_,_,_,e1,hfl,_,hmy,hcy⟩:=fints.cases
   cases e1;have hpe:p<em:=by omega
   have hpf:p<fm:=by omega
   obtain⟨eb,eo,rfl,_,hcx⟩:=hcx (by omega);obtain⟨fb,fo,rfl,_,hcy⟩:=hcy (by omega);have r1:=ec1;have r2:=fc1;have r3:=hcx p hpe;have r4:=hcy p hpf;rw[←hax] at r3;rw[←hay] at r4;have HNO:=Lib.hid (fun t u h1 h2 h3=>chQ_no (ks:=ks) (d:=q) (t:=t) (u:=u) hpv h1 h2 h3);have HGO:=Lib.hid (fun t u h1 h2 h3=>chQ_go (ks:=ks) (d:=q) (t:=t) (u:=u) hpv h1 h2 h3);have hi0:(0:Int)≤i:=by omega
   have hi1:(i:Int)<yn:=by omega
   have hj0:(0:Int)≤j:=by omega
   have hj1:(j:Int)<yn:=by omega
   have hp0:(0:Int)≤p:=by omega
   have hpe1:(p:Int)<em:=by omega
   have hpf1:(p:Int)<fm:=by omega
   unfold maxLen at hym hmx hmy;have hn1:¬(i:Int)<0:=by omega
   clear hp hp1 hp2 hpl hpn hpx hpy hyl hyn hya hyw hyc hel hfl hcx hcy ec1 fc1 eints fints hpv hpc hxs hbw hms hqz;obtain⟨t,ht⟩:∃t,(argsAt q.2 i).getD p 0=t:=⟨_,rfl⟩
   obtain⟨u,hu⟩:∃u,(argsAt q.2 j).getD p 0=u:=⟨_,rfl⟩
   have HNO2:=Lib.hid (HNO.out t u ht hu);have HGO2:=Lib.hid (HGO.out t u ht hu);rw[ht] at hti r3;rw[hu] at htj r4;have HTI:=Lib.hid hti;have HTJ:=Lib.hid htj;clear ht hu HNO HGO hax hay hti htj;obtain⟨ok,hok⟩:∃ok,eqOk t u=ok:=⟨_,rfl⟩
   have HOK:=Lib.hid hok;clear hok;go_wp2_with fail
   refine HPC.out.mono ?_;rintro e w4 ⟨rfl,hbb⟩;replace HM:=Lib.hid (HM.out.below hbb);replace x0:=cellk hbb x0;replace x1:=cellk hbb x1;replace r1:=cellk hbb r1;replace r2:=cellk hbb r2;replace r3:=cellk hbb r3;replace r4:=cellk hbb r4;replace f0:=frok hbb k0 f0;replace f1:=frok hbb k1 f1;replace k0:=cellk hbb k0;replace k1:=cellk hbb k1;replace HXN:=Lib.hid (HXN.out.below hbb);replace HSRr:=Lib.hid (HSRr.out.below (by have:=HBN.out.size;have:=HBB.out;have:=HSZ.out;omega) hbb);replace HBN:=Lib.hid (bnext HBN.out hbb);have hB4:=hbb.size;clear hbb g0 g1;have HCL:=Lib.hid (fun wz (hb:Below w4.heap.size w4 wz)=>HEQ.out wz _ q t u (HXN.out.below hb) HTI.out HTJ.out HQZ.out);rw[HOK.out] at HCL;have qa0:=cellk (below_alloc w4 (.cells #[.slice none 0 0,.slice none 0 0] 29)) x0;have qa1:=cellk (below_alloc w4 (.cells #[.slice none 0 0,.slice none 0 0] 29)) x1;have qa2:=cellk (below_alloc w4 (.cells #[.slice none 0 0,.slice none 0 0] 29)) r1;have qa3:=cellk (below_alloc w4 (.cells #[.slice none 0 0,.slice none 0 0] 29)) r2;have qa4:=cellk (below_alloc w4 (.cells #[.slice none 0 0,.slice none 0 0] 29)) r3;have qa5:=cellk (below_alloc w4 (.cells #[.slice none 0 0,.slice none 0 0] 29)) r4;have hlt0:=World.block_lt_of_cell? _ _ x0;have hlt2:=World.block_lt_of_cell? _ _ r1;have hlt4:=World.block_lt_of_cell? _ _ r3;have hlt5:=World.block_lt_of_cell? _ _ r4;go_upto_region 5 with fail
   go_cut [10,11] from 25 to 47 (fun q10 q11 wx=>∃B2 w0_a0 w0_n0 w0_c0 w0_a1 w0_n1 w0_c1,q10=.pointer (some ⟨B2,0,none⟩)∧q11=.bool ok∧LaidR w4 (eqQ q t u) wx B2 w0_a0 w0_n0 w0_c0 w0_a1 w0_n1 w0_c1)
   case first=>
    clear k0 k1 f0 f1
    go_region_held3 (fun w'=>w'.cell? ⟨B,0,none⟩=some (.slice xa xn xc)∧w'.cell? ⟨B,1,none⟩=some (.slice (some ⟨b,off,none⟩) yn yc)∧w'.cell? ⟨b,off+i*2+1,none⟩=some (.slice (some ⟨eb,eo,none⟩) em ec)∧w'.cell? ⟨b,off+j*2+1,none⟩=some (.slice (some ⟨fb,fo,none⟩) fm fc)∧w'.cell? ⟨eb,eo+p,none⟩=some (.int .i64 t)∧w'.cell? ⟨fb,fo+p,none⟩=some (.int .i64 u)∧Below w4.heap.size w4 w')
     (first|assumption|exact⟨by simpa using x0,by simpa using x1,by simpa using r1,by simpa using r2,by simpa using r3,by simpa using r4,(Below.refl _ _).drew⟩|exact⟨by simpa using qa0,by simpa using qa1,by simpa using qa2,by simpa using qa3,by simpa using qa4,by simpa using qa5,Below.drew (below_alloc _ _)⟩|exact⟨g0,g1,g2,g3,g4,g5,gB⟩|exact⟨cellk (below_alloc _ _) g0,cellk (below_alloc _ _) g1,cellk (below_alloc _ _) g2,cellk (below_alloc _ _) g3,cellk (below_alloc _ _) g4,cellk (below_alloc _ _) g5,bnext gB (below_alloc _ _)⟩|exact⟨OnlyAt.cell ((OnlyAt.setCell _ _ _ _).same (OnlyAt.setCell _ _ _ _)) (by simp;omega) g0,OnlyAt.cell ((OnlyAt.setCell _ _ _ _).same (OnlyAt.setCell _ _ _ _)) (by simp;omega) g1,OnlyAt.cell ((OnlyAt.setCell _ _ _ _).same (OnlyAt.setCell _ _ _ _)) (by simp;omega) g2,OnlyAt.cell ((OnlyAt.setCell _ _ _ _).same (OnlyAt.setCell _ _ _ _)) (by simp;omega) g3,OnlyAt.cell ((OnlyAt.setCell _ _ _ _).same (OnlyAt.setCell _ _ _ _)) (by simp;omega) g4,OnlyAt.cell ((OnlyAt.setCell _ _ _ _).same (OnlyAt.setCell _ _ _ _)) (by simp;omega) g5,OnlyAt.below gB ((OnlyAt.setCell _ _ _ _).same (OnlyAt.setCell _ _ _ _)) (fun x hx=>by simp at hx;omega)⟩)
     ((go_at_call 93;(try go_split_ands);refine (HCL.out _ (by first|assumption|exact bnext (by assumption) (below_alloc _ _))).mono ?_;rintro e ws ⟨w0_a0,w0_n0,w0_c0,w0_a1,w0_n1,w0_c1,rfl,Wh0,hbs⟩;have g0:ws.cell? ⟨B,0,none⟩=some (.slice xa xn xc):=cellk hbs (by first|assumption|exact cellk (below_alloc _ _) (by assumption));have g1:ws.cell? ⟨B,1,none⟩=some (.slice (some ⟨b,off,none⟩) yn yc):=cellk hbs (by first|assumption|exact cellk (below_alloc _ _) (by assumption));have g2:ws.cell? ⟨b,off+i*2+1,none⟩=some (.slice (some ⟨eb,eo,none⟩) em ec):=cellk hbs (by first|assumption|exact cellk (below_alloc _ _) (by assumption));have g3:ws.cell? ⟨b,off+j*2+1,none⟩=some (.slice (some ⟨fb,fo,none⟩) fm fc):=cellk hbs (by first|assumption|exact cellk (below_alloc _ _) (by assumption));have g4:ws.cell? ⟨eb,eo+p,none⟩=some (.int .i64 t):=cellk hbs (by first|assumption|exact cellk (below_alloc _ _) (by assumption));have g5:ws.cell? ⟨fb,fo+p,none⟩=some (.int .i64 u):=cellk hbs (by first|assumption|exact cellk (below_alloc _ _) (by assumption));have gB:Below w4.heap.size w4 ws:=bnext (by first|assumption|exact bnext (by assumption) (below_alloc _ _)) hbs;have gs_ws:=gB.size;have IX:=Lib.hid Wh0;(first|(have hBX:=zb_lt hz;replace hz:=zbk hbs hz;obtain⟨z0,z1⟩:=zb_cell hz;obtain⟨y0,y1⟩:=zb_froz hz)|(have hz0:=heap_alloc_new w4 (.cells #[.slice none 0 0,.slice none 0 0] 29);have hz:=zbk hbs hz0;have hBX:=zb_lt hz0;clear hz0;obtain⟨z0,z1⟩:=zb_cell hz;obtain⟨y0,y1⟩:=zb_froz hz)|skip)))
    all_goals (go_wp2_with fail;go_meet;(try go_split_ands))
    all_goals first
     |with_reducible exact⟨_,_,_,_,_,_,_,rfl,rfl,laidR_set IX.out hz (by omega) gB⟩
     |with_reducible exact⟨_,_,_,_,_,_,_,rfl,rfl,laidR_new IX.out gB⟩
   case rest=>
    obtain⟨B2,w0_a0,w0_n0,w0_c0,w0_a1,w0_n1,w0_c1,rfl,rfl,hlaid⟩:=hcut;obtain⟨w5,hw⟩:∃w5,w5=wc:=⟨_,rfl⟩
    subst hw;obtain⟨hc0,hc1,hro,hb1,hb2,hb⟩:=hlaid;have HRO:=Lib.hid hro;replace HM:=Lib.hid (HM.out.below hb);replace f0:=frok hb k0 f0;replace f1:=frok hb k1 f1;replace k0:=cellk hb k0;replace k1:=cellk hb k1;replace HSRr:=Lib.hid (HSRr.out.below (by omega) hb);replace HBN:=Lib.hid (bnext HBN.out hb);have hB5:=hb.size;clear hb hro x0 x1 r1 r2 r3 r4 qa0 qa1 qa2 qa3 qa4 qa5 hb1 hb2
    cases ok with
    |false=>
     have HEND:Hid (chQ ks d=none):=by rw[←HMS.out];exact HNO2.out HOK.out
     go_wp2_with fail
     have hk:OnlyAt [w.heap.size+1] w5 ((w5.setCell ⟨w.heap.size+1,0,none⟩ (.slice none 0 0)).setCell ⟨w.heap.size+1,1,none⟩ (.slice none 0 0)):=(OnlyAt.setCell w5 _ _ _).same (OnlyAt.setCell _ _ _ _);exact bodyPost_ret (v:=.tuple #[.agg #[.slice none 0 0,.slice none 0 0],.bool false]) (by simp[results,Tryz.results41,go_sem,k0,k1]) rfl ⟨_,_,_,_,_,_,by rw[HEND.out];rfl,by rw[HEND.out];exact zeroQ13 _,OnlyAt.below HBN.out hk (fun x hx=>by simp at hx;omega)⟩
    |true=>
     have y0:=HM.out.1;have y1:=HM.out.2.1;have y2:=HM.out.2.2.1;have y3:=HM.out.2.2.2.1;have HSTEP:=Lib.hid (HGO2.out HOK.out);have HNEW:=Lib.hid (HM.out.lay (by rw[HBB.out];exact Nat.le_refl _) HRO.out (HSTEP.out.1.trans HMS.out) ((eqQ_size _ _ _).trans HQZ.out));clear k0 k1 f0 f1;go_wp2_with fail
     exact⟨⟨_,_,_,_,_,_,_,HNEW.out⟩,Nat.lt_of_le_of_lt (chM_le HNEW.out) (by rw[←HMU.out];exact HSTEP.out.2)⟩
noncomputable def ckR (s:List Int) (d:QueryD) (ks:List AtomD):Option QueryD:=if (fineB s d 4&&areKeysB s ks)=true then chQ ks d else none
noncomputable def cuB (s:List Int) (a b:QueryD) (ks:List AtomD):Bool:=fineB s a 4&&(fineB s b 4&&(areKeysB s ks&&(decide (a.1.length=b.1.length)&&(match chQ ks a with|none=>true|some x=>(findN b x).isSome))))
set_option maxRecDepth 100000 in
set_option maxHeartbeats 4000000 in
theorem sChaseKeys_any (w:World) (vs v vk:Value) (s:List Int) (d:QueryD) (ks:List AtomD) (hvs:RdSchema w vs s) (h:RdQuery w v d) (hks:RdAtomS w vk ks) (hz:sizeQuery d≤1048576) :
  Calls Tryz.prog 17 #[vs,v,vk] w (GaveQB w ((ckR s d ks).getD ([],[])) (ckR s d ks).isSome):=by
 have hz2:sizeAtomS d.2≤1048576:=by unfold sizeQuery at hz;omega
 have HQ:=Lib.hid (fun W (hb:Below w.heap.size w W)=>sIsQuery_any W vs v s d (RdSchema.below hvs hb) (RdQuery.below h hb) hz2);have HK:=Lib.hid (fun W (hb:Below w.heap.size w W)=>sAreKeys_any W vs vk s ks (RdSchema.below hvs hb) (RdAtomS.below hks hb));have HC:=Lib.hid (fun W (hb:Below w.heap.size w W)=>sChase_any W v vk d ks (RdQuery.below h hb) (RdAtomS.below hks hb) hz);obtain⟨R,hR⟩:∃R,R=ckR s d ks:=⟨_,rfl⟩
 rw[←hR];unfold ckR at hR;obtain⟨p1,hp1⟩:∃p,fineB s d 4=p:=⟨_,rfl⟩
 obtain⟨p2,hp2⟩:∃p,areKeysB s ks=p:=⟨_,rfl⟩
 rw[hp1,hp2] at hR;rw[hp1] at HQ;rw[hp2] at HK;have HRR:=Lib.hid hR;clear hR hp1 hp2;obtain⟨sa,sn,sc,rfl,hs⟩:=hvs;obtain⟨ka,kn,kc,rfl,hks⟩:=hks;obtain⟨a0,h0,c0,a,n,c,rfl,hi,ha⟩:=h;have hb0:∀a b c,Below w.heap.size w (((w.alloc a).alloc b).alloc c):=fun a b c=>(((Below.refl _ _).alloc (Nat.le_refl _) _).alloc (by simp) _).alloc (by simp;omega) _
 have HB0:=Lib.hid hb0;clear hs hi ha hks hb0 hz hz2;go_enter Tryz.func17,Tryz.ntmps17
 go_wp2_with fail
 obtain⟨W,hW⟩:∃W,W=((w.alloc (.cells #[.slice sa sn sc] 26)).alloc (.cells #[.slice a0 h0 c0,.slice a n c] 29)).alloc (.cells #[.slice none 0 0,.slice none 0 0] 29):=⟨_,rfl⟩
 have HBW:Hid (Below w.heap.size w W):=by rw[hW];exact HB0.out _ _ _
 have q0:W.cell? ⟨w.heap.size,0,none⟩=some (.slice sa sn sc):=by rw[hW];exact box1 w _ _ _ _ 0 _ rfl
 have q1:W.cell? ⟨w.heap.size+1,0,none⟩=some (.slice a0 h0 c0):=by rw[hW];exact box2 w _ _ _ _ 0 _ rfl
 have q2:W.cell? ⟨w.heap.size+1,1,none⟩=some (.slice a n c):=by rw[hW];exact box2 w _ _ _ _ 1 _ rfl
 have k0:W.cell? ⟨w.heap.size+1+1,0,none⟩=some (.slice none 0 0):=by rw[hW];exact box3 w _ _ _ _ 0 _ rfl
 have k1:W.cell? ⟨w.heap.size+1+1,1,none⟩=some (.slice none 0 0):=by rw[hW];exact box3 w _ _ _ _ 1 _ rfl
 have f0:W.frozen? ⟨w.heap.size+1+1,0,none⟩=false:=by rw[hW];exact frz3 w _ _ _ _ 0
 have f1:W.frozen? ⟨w.heap.size+1+1,1,none⟩=false:=by rw[hW];exact frz3 w _ _ _ _ 1
 have hsl:SlB W (w.heap.size+1+1):=by
  rw[hW];have:=SlB.new ((w.alloc (.cells #[.slice sa sn sc] 26)).alloc (.cells #[.slice a0 h0 c0,.slice a n c] 29)) none none 0 0 0 0 29;simpa using this
 have HSZ:Hid (W.heap.size=w.heap.size+3):=by rw[hW];exact Lib.hid (by simp)
 have HSL:=Lib.hid hsl;rw[←hW];clear hW hsl;have HBN:=HBW;replace HSZ:Hid (w.heap.size+3≤W.heap.size):=Lib.hid (by have:=HSZ.out;omega);refine (HQ.out _ HBW.out).mono ?_;rintro e w1 ⟨rfl,hbb⟩;replace HSL:=Lib.hid (HSL.out.below (by have:=HBN.out.size;have:=HSZ.out;omega) hbb);replace f0:=frok hbb k0 f0;replace f1:=frok hbb k1 f1;replace q0:=cellk hbb q0;replace q1:=cellk hbb q1;replace q2:=cellk hbb q2;replace k0:=cellk hbb k0;replace k1:=cellk hbb k1;replace HSZ:=Lib.hid (Nat.le_trans HSZ.out hbb.size);replace HBN:=Lib.hid (bnext HBN.out hbb);clear hbb
 cases p1 with
 |false=>
  have HNO:Hid (R=none):=HRR.out.trans (by simp);go_wp2_with fail
  have hk:OnlyAt [w.heap.size+1+1] w1 ((w1.setCell ⟨w.heap.size+1+1,0,none⟩ (.slice none 0 0)).setCell ⟨w.heap.size+1+1,1,none⟩ (.slice none 0 0)):=(OnlyAt.setCell w1 _ _ _).same (OnlyAt.setCell _ _ _ _);exact bodyPost_ret (v:=.tuple #[.agg #[.slice none 0 0,.slice none 0 0],.bool false]) (by simp[results,Tryz.results17,go_sem,k0,k1]) rfl ⟨_,_,_,_,_,_,by rw[HNO.out];rfl,by rw[HNO.out];exact zeroQ13 _,OnlyAt.below HBN.out hk (fun x hx=>by simp at hx;omega)⟩
 |true=>
  go_wp2_with fail
  refine (HK.out _ HBN.out).mono ?_;rintro e w2 ⟨rfl,hbb⟩;replace HSL:=Lib.hid (HSL.out.below (by have:=HBN.out.size;have:=HSZ.out;omega) hbb);replace f0:=frok hbb k0 f0;replace f1:=frok hbb k1 f1;replace q0:=cellk hbb q0;replace q1:=cellk hbb q1;replace q2:=cellk hbb q2;replace k0:=cellk hbb k0;replace k1:=cellk hbb k1;replace HSZ:=Lib.hid (Nat.le_trans HSZ.out hbb.size);replace HBN:=Lib.hid (bnext HBN.out hbb);clear hbb
  cases p2 with
  |false=>
   have HNO:Hid (R=none):=HRR.out.trans (by simp);go_wp2_with fail
   have hk:OnlyAt [w.heap.size+1+1] w2 ((w2.setCell ⟨w.heap.size+1+1,0,none⟩ (.slice none 0 0)).setCell ⟨w.heap.size+1+1,1,none⟩ (.slice none 0 0)):=(OnlyAt.setCell w2 _ _ _).same (OnlyAt.setCell _ _ _ _);exact bodyPost_ret (v:=.tuple #[.agg #[.slice none 0 0,.slice none 0 0],.bool false]) (by simp[results,Tryz.results17,go_sem,k0,k1]) rfl ⟨_,_,_,_,_,_,by rw[HNO.out];rfl,by rw[HNO.out];exact zeroQ13 _,OnlyAt.below HBN.out hk (fun x hx=>by simp at hx;omega)⟩
  |true=>
   have HYES:Hid (R=chQ ks d):=HRR.out.trans (by simp);rw[←HYES.out] at HC;go_wp2_with fail
   refine (HC.out _ HBN.out).mono ?_;rintro e w3 ⟨ra,rn,rc,ra',rn',rc',rfl,hr,hbc⟩;have hbb:=bnext hbc (below_alloc w3 (.cells #[.slice ra rn rc,.slice ra' rn' rc'] 29));have HX:=Lib.hid (hr.below (below_alloc w3 (.cells #[.slice ra rn rc,.slice ra' rn' rc'] 29)));replace HSL:=Lib.hid (HSL.out.below (by have:=HBN.out.size;have:=HSZ.out;omega) hbb);replace f0:=frok hbb k0 f0;replace f1:=frok hbb k1 f1;replace q0:=cellk hbb q0;replace q1:=cellk hbb q1;replace q2:=cellk hbb q2;replace k0:=cellk hbb k0;replace k1:=cellk hbb k1;replace HSZ:=Lib.hid (Nat.le_trans HSZ.out hbb.size);replace HBN:=Lib.hid (bnext HBN.out hbb);clear hbb;have hs3:=hbc.size;clear hbc hr;go_wp2_with fail
   obtain⟨w4,hw4⟩:∃w4,w4=w3.alloc (.cells #[.slice ra rn rc,.slice ra' rn' rc'] 29):=⟨_,rfl⟩
   rw[←hw4] at HX HSL HBN k0 k1 ⊢;have hk:OnlyAt [w.heap.size+1+1] w4 ((w4.setCell ⟨w.heap.size+1+1,0,none⟩ (.slice ra rn rc)).setCell ⟨w.heap.size+1+1,1,none⟩ (.slice ra' rn' rc')):=(OnlyAt.setCell w4 _ _ _).same (OnlyAt.setCell _ _ _ _);exact bodyPost_ret (v:=.tuple #[.agg #[.slice ra rn rc,.slice ra' rn' rc'],.bool R.isSome]) (by simp[results,Tryz.results17,go_sem,k0,k1]) rfl ⟨_,_,_,_,_,_,rfl,HX.out.offS hk HSL.out,OnlyAt.below HBN.out hk (fun x hx=>by simp at hx;omega)⟩
set_option maxRecDepth 100000 in
set_option maxHeartbeats 4000000 in
theorem sContUnder_any (w:World) (vs va vb vk:Value) (s:List Int) (da db:QueryD) (ks:List AtomD) (hvs:RdSchema w vs s) (ha:RdQuery w va da) (hb:RdQuery w vb db) (hks:RdAtomS w vk ks) (hz1:sizeQuery da≤1048576) (hz2:sizeQuery db≤1048576) :
  Calls Tryz.prog 10 #[vs,va,vb,vk] w (GaveBool w (cuB s da db ks)):=by
 have HQ1:=Lib.hid (fun W (h:Below w.heap.size w W)=>sIsQuery_any W vs va s da (RdSchema.below hvs h) (RdQuery.below ha h) (by unfold sizeQuery at hz1;omega));have HQ2:=Lib.hid (fun W (h:Below w.heap.size w W)=>sIsQuery_any W vs vb s db (RdSchema.below hvs h) (RdQuery.below hb h) (by unfold sizeQuery at hz2;omega));have HK:=Lib.hid (fun W (h:Below w.heap.size w W)=>sAreKeys_any W vs vk s ks (RdSchema.below hvs h) (RdAtomS.below hks h));have HC:=Lib.hid (fun W (h:Below w.heap.size w W)=>sChase_any W va vk da ks (RdQuery.below ha h) (RdAtomS.below hks h) hz1);have HF:=Lib.hid (fun W x q (h:Below w.heap.size w W) (hx:RdQuery W x q) (h2:fineB s db 4=true)=>sFind7_any W vb x db q (RdQuery.below hb h) hx (fun x hx=>(f7_head h2 x hx).2) (fun a ha x hx=>(f7_body h2 a ha x hx).2));obtain⟨R,hR⟩:∃R,cuB s da db ks=R:=⟨_,rfl⟩
 rw[hR];unfold cuB at hR;obtain⟨p1,hp1⟩:∃p,fineB s da 4=p:=⟨_,rfl⟩
 obtain⟨p2,hp2⟩:∃p,fineB s db 4=p:=⟨_,rfl⟩
 obtain⟨p3,hp3⟩:∃p,areKeysB s ks=p:=⟨_,rfl⟩
 obtain⟨r,hr⟩:∃r,chQ ks da=r:=⟨_,rfl⟩
 rw[hp1,hp2,hp3,hr] at hR;rw[hp1] at HQ1;rw[hp2] at HQ2 HF;rw[hp3] at HK;rw[hr] at HC;obtain⟨sa,sn,sc,rfl,hs⟩:=hvs;obtain⟨ka,kn,kc,rfl,hks⟩:=hks;obtain⟨a0,h0,c0,a,n,c,rfl,hi,ha⟩:=ha;obtain⟨b0,g0,d0,b,m,k,rfl,hj,hb⟩:=hb;have hl1:da.1.length=h0:=by obtain⟨_,_,_,e,hl,_⟩:=hi.cases;cases e;exact hl
 have hl2:db.1.length=g0:=by obtain⟨_,_,_,e,hl,_⟩:=hj.cases;cases e;exact hl
 have hb0:∀a b c,Below w.heap.size w (((w.alloc a).alloc b).alloc c):=fun a b c=>(((Below.refl _ _).alloc (Nat.le_refl _) _).alloc (by simp) _).alloc (by simp;omega) _
 have HB0:=Lib.hid hb0;rw[hl1,hl2] at hR;have HBB:=Lib.hid hR.symm;clear hs hi ha hj hb hks hb0 hz1 hz2 hp1 hp2 hp3 hr hR hl1 hl2;go_enter Tryz.func10,Tryz.ntmps10
 go_wp2_with fail
 obtain⟨W,hW⟩:∃W,W=((w.alloc (.cells #[.slice sa sn sc] 26)).alloc (.cells #[.slice a0 h0 c0,.slice a n c] 29)).alloc (.cells #[.slice b0 g0 d0,.slice b m k] 29):=⟨_,rfl⟩
 have HBW:Hid (Below w.heap.size w W):=by rw[hW];exact HB0.out _ _ _
 have q0:W.cell? ⟨w.heap.size,0,none⟩=some (.slice sa sn sc):=by rw[hW];exact box1 w _ _ _ _ 0 _ rfl
 have q1:W.cell? ⟨w.heap.size+1,0,none⟩=some (.slice a0 h0 c0):=by rw[hW];exact box2 w _ _ _ _ 0 _ rfl
 have q2:W.cell? ⟨w.heap.size+1,1,none⟩=some (.slice a n c):=by rw[hW];exact box2 w _ _ _ _ 1 _ rfl
 have q3:W.cell? ⟨w.heap.size+1+1,0,none⟩=some (.slice b0 g0 d0):=by rw[hW];exact box3 w _ _ _ _ 0 _ rfl
 have q4:W.cell? ⟨w.heap.size+1+1,1,none⟩=some (.slice b m k):=by rw[hW];exact box3 w _ _ _ _ 1 _ rfl
 rw[←hW];clear hW;have HBN:=HBW;refine (HQ1.out _ HBW.out).mono ?_;rintro e w1 ⟨rfl,hbb⟩;replace q0:=cellk hbb q0;replace q1:=cellk hbb q1;replace q2:=cellk hbb q2;replace q3:=cellk hbb q3;replace q4:=cellk hbb q4;replace HBN:=Lib.hid (bnext HBN.out hbb);clear hbb
 cases p1 with
 |false=>
  go_wp2_with fail
  go_ret;exact⟨ret_b (HBB.out.trans (by first|rfl|simp)).symm,HBN.out⟩
 |true=>
  go_wp2_with fail
  refine (HQ2.out _ HBN.out).mono ?_;rintro e w2 ⟨rfl,hbb⟩;replace q0:=cellk hbb q0;replace q1:=cellk hbb q1;replace q2:=cellk hbb q2;replace q3:=cellk hbb q3;replace q4:=cellk hbb q4;replace HBN:=Lib.hid (bnext HBN.out hbb);clear hbb
  cases p2 with
  |false=>
   go_wp2_with fail
   go_ret;exact⟨ret_b (HBB.out.trans (by first|rfl|simp)).symm,HBN.out⟩
  |true=>
   go_wp2_with fail
   refine (HK.out _ HBN.out).mono ?_;rintro e w3 ⟨rfl,hbb⟩;replace q0:=cellk hbb q0;replace q1:=cellk hbb q1;replace q2:=cellk hbb q2;replace q3:=cellk hbb q3;replace q4:=cellk hbb q4;replace HBN:=Lib.hid (bnext HBN.out hbb);clear hbb
   cases p3 with
   |false=>
    go_wp2_with fail
    go_ret;exact⟨ret_b (HBB.out.trans (by first|rfl|simp)).symm,HBN.out⟩
   |true=>
    by_cases hlen:h0=g0
    ·subst hlen;go_wp2_with fail
     refine (HC.out _ HBN.out).mono ?_;rintro e w4 ⟨ra,rn,rc,ra',rn',rc',rfl,hr,hbc⟩;have hbb:=bnext hbc (below_alloc w4 (.cells #[.slice ra rn rc,.slice ra' rn' rc'] 29));have HX:=Lib.hid (hr.below (below_alloc w4 (.cells #[.slice ra rn rc,.slice ra' rn' rc'] 29)));replace q0:=cellk hbb q0;replace q1:=cellk hbb q1;replace q2:=cellk hbb q2;replace q3:=cellk hbb q3;replace q4:=cellk hbb q4;replace HBN:=Lib.hid (bnext HBN.out hbb);clear hbb;clear hbc hr
     cases r with
     |none=>
      simp only[Option.isSome_none,Option.getD_none] at HX ⊢;go_wp2_with fail
      go_ret;exact⟨ret_b (HBB.out.trans (by first|rfl|simp)).symm,HBN.out⟩
     |some x=>
      simp only[Option.isSome_some,Option.getD_some] at HX ⊢;go_wp2_with fail
      refine (HF.out _ _ _ HBN.out HX.out (by trivial)).mono ?_;rintro e w5 ⟨yv,rfl,hy,hbb⟩;replace HBN:=Lib.hid (bnext HBN.out hbb);clear hy hbb;go_wp2_with fail
      go_ret;exact⟨ret_b (HBB.out.trans (by simp)).symm,HBN.out⟩
    ·have q:((h0:Int) != g0)=true:=bne_iff_ne.2 (by omega);have hf:decide (h0=g0)=false:=decide_eq_false hlen;rw[hf] at HBB;clear hlen hf;go_wp2_with fail
     go_ret;exact⟨ret_b (HBB.out.trans (by first|rfl|simp)).symm,HBN.out⟩
end Go.Proofs.YtpedpbbiamhgdaaGreatDoor
