import Derived.Test.YtpedpbbiamhgdaaGreatDoorSq4all
import Derived.Deep.RegionHeld3
namespace Go.Proofs.YtpedpbbiamhgdaaGreatDoor
open Go Go.Sort Go.RowKit
set_option linter.unusedVariables false
theorem OInts.ints {w:World} {v:Value} {l:List Int} {bs:List Nat} (h:OInts w v l bs):Ints w v l:=h.1
def headOk (b:List Int) (t:Int):Bool:=!varB t||decide (t∈b)
def fineB (s:List Int) (d:QueryD) (most:Int):Bool:=
 isSchemaB s&&(termsB d.1&&(inB d.2.length 1 most&&(d.2.all (fun x=>isAtomB s x.1 x.2)&&d.1.all (headOk (bodyVars d.2)))))
theorem fine1 {s:List Int} {d:QueryD} {most:Int} (h:isSchemaB s=false):fineB s d most=false:=by unfold fineB;rw[h];rfl
theorem fine2 {s:List Int} {d:QueryD} {most:Int} (h:isSchemaB s=true) (h2:termsB d.1=false):fineB s d most=false:=by unfold fineB;rw[h,h2];rfl
theorem fine3 {s:List Int} {d:QueryD} {most:Int} (h:isSchemaB s=true) (h2:termsB d.1=true) (h3:inB d.2.length 1 most=false):fineB s d most=false:=by unfold fineB;rw[h,h2,h3];rfl
theorem fine4 {s:List Int} {d:QueryD} {most:Int} (h:isSchemaB s=true) (h2:termsB d.1=true) (h3:inB d.2.length 1 most=true):fineB s d most=(d.2.all (fun x=>isAtomB s x.1 x.2)&&d.1.all (headOk (bodyVars d.2))):=by unfold fineB;rw[h,h2,h3];rfl
theorem allA_no {l:List AtomD} {p:AtomD→Bool} {i:Nat} {x:AtomD} (h:l[i]?=some x) (h2:p x=false):l.all p=false:=by
 rw[Bool.eq_false_iff];intro hc;rw[List.all_eq_true.1 hc x (List.mem_of_getElem? h)] at h2
 cases h2
theorem allA_yes {l:List AtomD} {p:AtomD→Bool} (h:∀(j:Nat) (x:AtomD),l[j]?=some x→p x=true):l.all p=true:=by
 rw[List.all_eq_true];intro x hx;obtain⟨j,hj⟩:=List.mem_iff_getElem?.1 hx;exact h j x hj
set_option maxRecDepth 100000 in
set_option maxHeartbeats 8000000 in
theorem sFine_any (w:World) (vs v:Value) (s:List Int) (d:QueryD) (most:Int) (hvs:RdSchema w vs s) (h:RdQuery w v d) (hsz:sizeAtomS d.2≤1048576) :
  Calls Tryz.prog 55 #[vs,v,.int .i64 most] w (GaveBool w (fineB s d most)):=by
 obtain⟨sa,sn,sc,rfl,hs⟩:=hvs;have HQR:=Lib.hid h;obtain⟨ha,hn0,hc0,a,n,c,rfl,hi,h⟩:=h;obtain⟨hl,hn,hm,hcell⟩:=h.at
 unfold maxLen at hm;have hb0:∀a b,Below w.heap.size w ((w.alloc a).alloc b):=fun a b=>((Below.refl _ _).alloc (Nat.le_refl _) _).alloc (by simp) _
 have HB0:=Lib.hid hb0;have HSV:=Lib.hid hs;have HIV:=Lib.hid hi;have hS:=Lib.hid (fun w h=>sIsSchema_any w (.slice sa sn sc) s h);have hT:=Lib.hid (fun w h=>sTerms_any w (.slice ha hn0 hc0) d.1 h);have hI:=Lib.hid (fun w=>l1In_any n 1 most w)
 cases h1:isSchemaB s with
 |false=>
  have HQ:=Lib.hid (fine1 (d:=d) (most:=most) h1);rw[h1] at hS;clear h hl hcell hi hs hb0 h1;go_enter Tryz.func55,Tryz.ntmps55
  go_wp2_with fail
  refine (hS.out _ (HSV.out.below (HB0.out _ _))).mono ?_;rintro e W ⟨rfl,hb⟩;have HBW:=Lib.hid (bnext (HB0.out _ _) hb);clear hb;go_wp2_with fail
  go_ret;exact⟨ret_b HQ.out.symm,HBW.out⟩
 |true=>
  rw[h1] at hS
  cases h2:termsB d.1 with
  |false=>
   have HQ:=Lib.hid (fine2 (most:=most) h1 h2);rw[h2] at hT;clear h hl hcell hi hs hb0 h1 h2;go_enter Tryz.func55,Tryz.ntmps55
   go_wp2_with fail
   refine (hS.out _ (HSV.out.below (HB0.out _ _))).mono ?_;rintro e W ⟨rfl,hb⟩;have HBW:=Lib.hid (bnext (HB0.out _ _) hb);have kq:=cellk hb (b:=w.heap.size+1) (o:=0) (v:=.slice ha hn0 hc0) (by simp);clear hb;go_wp2_with fail
   refine (hT.out _ (HIV.out.below HBW.out)).mono ?_;rintro e W2 ⟨rfl,hb⟩;have HBW2:=Lib.hid (bnext HBW.out hb);clear hb;go_wp2_with fail
   go_ret;exact⟨ret_b HQ.out.symm,HBW2.out⟩
  |true=>
   rw[h2] at hT
   cases h3:inB n 1 most with
   |false=>
    have HQ:=Lib.hid (fine3 (most:=most) h1 h2 (by rw[hl];exact h3));rw[h3] at hI;clear h hl hcell hi hs hb0 h1 h2 h3;go_enter Tryz.func55,Tryz.ntmps55
    go_wp2_with fail
    refine (hS.out _ (HSV.out.below (HB0.out _ _))).mono ?_;rintro e W ⟨rfl,hb⟩;have HBW:=Lib.hid (bnext (HB0.out _ _) hb);have kq:=cellk hb (b:=w.heap.size+1) (o:=0) (v:=.slice ha hn0 hc0) (by simp);have kq1:=cellk hb (b:=w.heap.size+1) (o:=1) (v:=.slice a n c) (by simp);clear hb;go_wp2_with fail
    refine (hT.out _ (HIV.out.below HBW.out)).mono ?_;rintro e W2 ⟨rfl,hb⟩;have HBW2:=Lib.hid (bnext HBW.out hb);replace kq1:=cellk hb kq1;clear hb;go_wp2_with fail
    refine (hI.out _).mono ?_;rintro e W3 ⟨rfl,rfl⟩;go_wp2_with fail
    go_ret;exact⟨ret_b HQ.out.symm,HBW2.out⟩
   |true=>
    have HQ4:=Lib.hid (fine4 (most:=most) h1 h2 (by rw[hl];exact h3));rw[h3] at hI;have HC:=Lib.hid hcell;have HL:=Lib.hid hl;have HSZ:=Lib.hid hsz;obtain⟨_,_,_,e1,hl0,hn1,hm1,hcell0⟩:=hi.cases
    cases e1;have HC0:=Lib.hid hcell0;have HL0:=Lib.hid hl0;unfold maxLen at hm1;have hA:=Lib.hid (fun w r v' l hs h=>sIsAtom_any w r (.slice sa sn sc) v' s l hs h);have hBV:=Lib.hid (fun w h=>sBodyVars_any w (.agg #[.slice ha hn0 hc0,.slice a n c]) d h hsz);have hH:=Lib.hid (fun w v l x h=>sHas_any w v l x h);have hVar:=Lib.hid (fun t w=>sIsVar_any t w);clear h hl hcell hi hs hb0 h1 h2 h3 hsz hl0 hcell0;rw[HQ4.out];go_enter Tryz.func55,Tryz.ntmps55
    go_wp2_with fail
    refine (hS.out _ (HSV.out.below (HB0.out _ _))).mono ?_;rintro e W ⟨rfl,hb⟩;have HBW:=Lib.hid (bnext (HB0.out _ _) hb);have ks:=cellk hb (b:=w.heap.size) (o:=0) (v:=.slice sa sn sc) (by simp);have kq:=cellk hb (b:=w.heap.size+1) (o:=0) (v:=.slice ha hn0 hc0) (by simp);have kq1:=cellk hb (b:=w.heap.size+1) (o:=1) (v:=.slice a n c) (by simp);clear hb;go_wp2_with fail
    refine (hT.out _ (HIV.out.below HBW.out)).mono ?_;rintro e W2 ⟨rfl,hb⟩;have HBW2:=Lib.hid (bnext HBW.out hb);replace ks:=cellk hb ks;replace kq:=cellk hb kq;replace kq1:=cellk hb kq1;clear hb;go_wp2_with fail
    refine (hI.out _).mono ?_;rintro e W3 ⟨rfl,rfl⟩;have KS:=Lib.hid ks;have KQ:=Lib.hid kq;have KQ1:=Lib.hid kq1;go_wp2_with fail
    clear ks kq kq1
    go_loopw [7] (fun iv wr=>∃i:Nat,i≤n∧iv=.int .i64 i∧Below W2.heap.size W2 wr∧Hid (∀(j:Nat) (x:AtomD),j<i→d.2[j]?=some x→isAtomB s x.1 x.2=true)) (fun iv _=>n-(intOf iv).toNat)
    case atStart=>exact⟨0,by omega,rfl,Below.refl _ _,fun j x hj=>by omega⟩
    case round=>
     obtain⟨i,hi,rfl,hb,HE⟩:=hrel;have HB:=Lib.hid hb;have ks:=cellk hb KS.out;have kq1:=cellk hb KQ1.out;by_cases hlt:i<n
     ·obtain⟨b,off,rfl,hbw,hc⟩:=HC.out (by omega);obtain⟨e,hd⟩:∃e,d.2[i]?=some e:=⟨d.2[i]'(by rw[HL.out];exact hlt),List.getElem?_eq_getElem (by rw[HL.out];exact hlt)⟩
      obtain⟨ea,em,ec,c0,c1,hdi,hints⟩:=atomAt (n:=n) hc i e hd;have hww:=bnext HBW2.out hb;have q0:=cell_regrown (w:=wr) ks;have q1:=cell_regrown (w:=wr) kq1;have k0:=cell_regrown (w:=wr) (cellk hww c0);have k1:=cell_regrown (w:=wr) (cellk hww c1);have HD:=Lib.hid hd;have hi0:(0:Int)≤i:=by omega
      have hi1:(i:Int)<n:=by omega
      have hcall:=Lib.hid (fun dn os=>hA.out (grow (redrawn wr dn) os) e.1 (.slice ea em ec) e.2 (HSV.out.below (hww.trans ((below_regrown wr dn os).mono hww.size))) (hints.below (hww.trans ((below_regrown wr dn os).mono hww.size))));clear hc hbw hb hd hdi hints c0 c1 hww
      cases hat:isAtomB s e.1 e.2 with
      |true=>
       have HQ:=Lib.hid (fun (x:AtomD) (e':x=e)=>(by rw[e'];exact hat:isAtomB s x.1 x.2=true));rw[hat] at hcall;clear hat
       generalize hr:e.1=r at *;clear hr;go_wp2_with fail
       refine wp_region_quiet_below (by kernel_rfl) (by kernel_rfl) ?_
       repeat (any_goals (first|go_big_quiet_step ((go_at_call 113;exact Calls.regrown_of (hcall.out _ _)))|quiet_step ((go_at_call 113;exact Calls.regrown_of (hcall.out _ _)))))
       refine wpQuiet_nil ?_;intro _ hw';obtain⟨⟨dq,osq⟩,hw''⟩:=hw';subst hw'';go_wp2_with fail
       refine⟨⟨i+1,by omega,by simp,bnext HB.out (below_regrown _ _ _),fun j x hj h5=>?_⟩,by simp[intOf];omega⟩;rcases Nat.lt_or_ge j i with h7|h7
       ·exact HE.out j x h7 h5
       ·obtain rfl:j=i:=by omega
        rw[HD.out] at h5;exact HQ.out x (Option.some.inj h5).symm
      |false=>
       have HQ:Hid ((d.2.all (fun x=>isAtomB s x.1 x.2)&&d.1.all (headOk (bodyVars d.2)))=false):=by
        unfold Hid;rw[allA_no HD.out hat];rfl
       rw[hat] at hcall;clear hat
       generalize hr:e.1=r at *;clear hr;go_wp2_with fail
       refine wp_region_quiet_below (by kernel_rfl) (by kernel_rfl) ?_
       repeat (any_goals (first|go_big_quiet_step ((go_at_call 113;exact Calls.regrown_of (hcall.out _ _)))|quiet_step ((go_at_call 113;exact Calls.regrown_of (hcall.out _ _)))))
       refine wpQuiet_nil ?_;intro _ hw';obtain⟨⟨dq,osq⟩,hw''⟩:=hw';subst hw'';go_wp2_with fail
       go_ret;exact⟨ret_b HQ.out.symm,bnext HBW2.out (bnext HB.out (below_regrown _ _ _))⟩
     ·obtain rfl:i=n:=by omega
      have HQ5:Hid ((d.2.all (fun x=>isAtomB s x.1 x.2)&&d.1.all (headOk (bodyVars d.2)))=d.1.all (headOk (bodyVars d.2))):=by
       unfold Hid;rw[allA_yes (fun j x h5=>HE.out j x (by rw[←HL.out];exact (List.getElem?_eq_some_iff.1 h5).1) h5)];rfl
      obtain⟨wo,hwo⟩:∃x,x=wr:=⟨_,rfl⟩
      subst hwo;have KQo:=Lib.hid (cellk hb KQ.out);have KQ1o:=Lib.hid kq1;have HBo:=Lib.hid (bnext HBW2.out hb);clear hb ks HE;go_wp2_with fail
      clear kq1
      go_loopw [8] (fun iv wr=>∃k:Nat,k≤hn0∧iv=.int .i64 k∧Below wo.heap.size wo wr∧Hid (∀j,j<k→headOk (bodyVars d.2) (d.1.getD j 0)=true)) (fun iv _=>hn0-(intOf iv).toNat)
      case atStart=>exact⟨0,by omega,rfl,Below.refl _ _,fun j hj=>by omega⟩
      case round=>
       obtain⟨k,hk,rfl,hb,HE⟩:=hrel;have HB:=Lib.hid hb;have kq:=cellk hb KQo.out;have kq1:=cellk hb KQ1o.out;by_cases hlt:k<hn0
       ·obtain⟨b,off,rfl,hbw,hc⟩:=HC0.out (by omega);have hww:=bnext HBo.out hb;have ke:=cellk hww (hc k hlt);have hi0:(0:Int)≤k:=by omega
        have hi1:(k:Int)<hn0:=by omega
        have HKL:Hid (k<d.1.length):=by unfold Hid;rw[HL0.out];exact hlt
        cases hv:varB (d.1.getD k 0) with
        |false=>
         have HQ:=Lib.hid (fun j (e:j=k)=>(by rw[e];unfold headOk;rw[hv];rfl:headOk (bodyVars d.2) (d.1.getD j 0)=true));have hcall:=Lib.hid (fun w=>hVar.out (d.1.getD k 0) w);rw[hv] at hcall;have q0:=cell_regrown (w:=wr) kq;have q1:=cell_regrown (w:=wr) kq1;have k0:=cell_regrown (w:=wr) ke;clear hv hc hbw hb hww;generalize d.1.getD k 0=t at *;go_wp2_with fail
         refine wp_region_quiet_below (by kernel_rfl) (by kernel_rfl) ?_
         repeat (any_goals (first|go_big_quiet_step ((go_at_call 114;exact Calls.regrown_of ((hcall.out _).mono fun e w' ⟨he,hw⟩=>⟨he,by rw[hw];exact Below.refl _ _⟩)))|quiet_step ((go_at_call 114;exact Calls.regrown_of ((hcall.out _).mono fun e w' ⟨he,hw⟩=>⟨he,by rw[hw];exact Below.refl _ _⟩)))))
         refine wpQuiet_nil ?_;intro _ hw';obtain⟨⟨dq,osq⟩,hw''⟩:=hw';subst hw'';go_wp2_with fail
         refine⟨⟨k+1,by omega,by simp,bnext HB.out (below_regrown _ _ _),fun j hj=>?_⟩,by simp[intOf];omega⟩;rcases Nat.lt_or_ge j k with h7|h7
         ·exact HE.out j h7
         ·exact HQ.out j (by omega)
        |true=>
         have hcall:=Lib.hid (fun w=>hVar.out (d.1.getD k 0) w);rw[hv] at hcall;have HOK:Hid (headOk (bodyVars d.2) (d.1.getD k 0)=decide (d.1.getD k 0∈bodyVars d.2)):=by unfold Hid headOk;rw[hv];rfl
         have HQR2:=Lib.hid (HQR.out.below hww);have hHas:=Lib.hid (fun w v h=>hH.out w v (bodyVars d.2) (d.1.getD k 0) h);obtain⟨q,hin⟩:∃q,decide (d.1.getD k 0∈bodyVars d.2)=q:=⟨_,rfl⟩
         have HQ:=Lib.hid (fun j (e:j=k)=>(by rw[e,HOK.out];exact hin:headOk (bodyVars d.2) (d.1.getD j 0)=q));rw[hin] at hHas;clear hin
         generalize ht:d.1.getD k 0=t at *;have HTT:=Lib.hid ht;clear ht
         try clear hv
         try clear hc
         try clear hbw
         try clear hb
         try clear hww
         cases q
         all_goals
          go_wp2_with fail
          go_region_held3 (fun w'=>w'.cell? ⟨w.heap.size+1,0,none⟩=some (.slice (some ⟨b,off,none⟩) hn0 hc0)∧w'.cell? ⟨w.heap.size+1,1,none⟩=some (.slice a i c)∧w'.cell? ⟨b,off+k,none⟩=some (.int .i64 t)∧Below wr.heap.size wr w')
           ((first|assumption|exact⟨by simpa using kq,by simpa using kq1,by simpa using ke,(Below.refl _ _).drew⟩|(go_split_ands;exact⟨cellk (by assumption) (by assumption),cellk (by assumption) (by assumption),cellk (by assumption) (by assumption),bnext (by assumption) (by assumption)⟩)))
           (first
            |(go_at_call 114;refine (hcall.out _).mono ?_;rintro e wv ⟨rfl,rfl⟩)
            |(go_at_call 116;(try go_split_ands);refine (hBV.out _ (HQR2.out.below (by assumption))).mono ?_;rintro e wb ⟨vb,bsb,rfl,hob,hfb,hbb⟩)
            |(go_at_call 115;(try go_split_ands);refine (hHas.out _ _ (by first|exact OInts.ints (by assumption))).mono ?_;rintro e wh ⟨rfl,hbh⟩))
          have hfin:Below wr.heap.size wr wh:=by (try go_split_ands);assumption
          have HFIN:=Lib.hid hfin
          clear hfin
          go_wp2_with fail
         ·go_ret;exact⟨ret_b (HQ5.out.trans (all_no k HKL.out (HQ.out k rfl))).symm,bnext HBo.out (bnext HB.out HFIN.out)⟩
         ·refine⟨⟨k+1,by omega,by simp,bnext HB.out HFIN.out,fun j hj=>?_⟩,by simp[intOf];omega⟩;rcases Nat.lt_or_ge j k with h7|h7
          ·exact HE.out j h7
          ·exact HQ.out j (by omega)
       ·obtain rfl:k=hn0:=by omega
        have HQ:Hid (d.1.all (headOk (bodyVars d.2))=true):=all_yes (fun j hj=>HE.out j (by rw[←HL0.out];exact hj));clear hb;go_wp2_with fail
        go_ret;exact⟨ret_b (HQ5.out.trans HQ.out).symm,bnext HBo.out HB.out⟩
set_option maxRecDepth 100000 in
set_option maxHeartbeats 4000000 in
theorem sIsQuery_any (w:World) (vs v:Value) (s:List Int) (d:QueryD) (hvs:RdSchema w vs s) (h:RdQuery w v d) (hsz:sizeAtomS d.2≤1048576) :
  Calls Tryz.prog 20 #[vs,v] w (GaveBool w (fineB s d 4)):=by
 have HS:=Lib.hid hvs;have HR:=Lib.hid h;have hF:=Lib.hid (fun w hs hq=>sFine_any w vs v s d 4 hs hq hsz);obtain⟨sa,sn,sc,rfl,hs⟩:=hvs;obtain⟨ha,hn0,hc0,a,n,c,rfl,hi,h⟩:=h;have hb0:∀a b,Below w.heap.size w ((w.alloc a).alloc b):=fun a b=>((Below.refl _ _).alloc (Nat.le_refl _) _).alloc (by simp) _
 have HB0:=Lib.hid hb0;clear hs hi h hb0;go_enter Tryz.func20,Tryz.ntmps20
 go_wp2_with fail
 refine (hF.out _ (HS.out.below (HB0.out _ _)) (HR.out.below (HB0.out _ _))).mono ?_;rintro e W ⟨rfl,hb⟩;have HBW:=Lib.hid (bnext (HB0.out _ _) hb);clear hb;go_wp2_with fail
 go_ret;exact⟨rfl,HBW.out⟩
end Go.Proofs.YtpedpbbiamhgdaaGreatDoor
