import Derived.Test.YtpedpbbiamhgdaaGreatDoorSatom
import Derived.Test.YtpedpbbiamhgdaaGreatDoorAtomK
import Derived.Lib.QuietBelow
import Derived.Test.YtpedpbbiamhgdaaGreatDoorBase
namespace Go.Proofs.YtpedpbbiamhgdaaGreatDoor
open Go Go.Sort Go.RowKit
set_option linter.unusedVariables false
def agreeAt (a b:List Int) (p:Int):Bool:=inB p 0 ((a.length:Int)-1)&&(decide (p<(b.length:Int))&&decide (a.getD p.toNat 0=b.getD p.toNat 0))
def agreeB (a b l:List Int):Bool:=l.all (agreeAt a b)
def plK (s:List Int) (r:Int) (l:List Int) (i:Nat):Bool:=inB (l.getD i 0) 0 (s.getD r.toNat 0-1)&&(decide (i=0)||decide (l.getD (i-1) 0<l.getD i 0))
def isKeyB (s:List Int) (r:Int) (l:List Int):Bool:=isSchemaB s&&(inB r 0 ((s.length:Int)-1)&&(inB l.length 1 3&&(List.range l.length).all (plK s r l)))
def areKeysB (s:List Int) (ks:List AtomD):Bool:=ks.all (fun k=>isKeyB s k.1 k.2)&&(isSchemaB s&&decide (ks.length≤4))
theorem key_1 {s l:List Int} {r:Int} (h:isSchemaB s=false):isKeyB s r l=false:=by unfold isKeyB;rw[h];rfl
theorem key_2 {s l:List Int} {r:Int} (h:inB r 0 ((s.length:Int)-1)=false):isKeyB s r l=false:=by unfold isKeyB;rw[h,Bool.false_and,Bool.and_false]
theorem key_3 {s l:List Int} {r:Int} (h:inB l.length 1 3=false):isKeyB s r l=false:=by unfold isKeyB;rw[h,Bool.false_and,Bool.and_false,Bool.and_false]
theorem key_4 {s l:List Int} {r:Int} (i:Nat) (hi:i<l.length) (h:plK s r l i=false):isKeyB s r l=false:=by
 unfold isKeyB;have:(List.range l.length).all (plK s r l)=false:=by rw[List.all_eq_false];exact⟨i,List.mem_range.2 hi,by rw[h];decide⟩
 rw[this,Bool.and_false,Bool.and_false,Bool.and_false]
theorem key_5 {s l:List Int} {r:Int} (h1:isSchemaB s=true) (h2:inB r 0 ((s.length:Int)-1)=true) (h3:inB l.length 1 3=true) (h:∀i,i<l.length→plK s r l i=true):isKeyB s r l=true:=by
 unfold isKeyB;have:(List.range l.length).all (plK s r l)=true:=List.all_eq_true.2 (fun i hi=>h i (List.mem_range.1 hi));rw[h1,h2,h3,this];rfl
theorem agree_no {a b l:List Int} (i:Nat) (hi:i<l.length) (h:agreeAt a b (l.getD i 0)=false):agreeB a b l=false:=all_no i hi h
theorem agree_yes {a b l:List Int} (h:∀i,i<l.length→agreeAt a b (l.getD i 0)=true):agreeB a b l=true:=all_yes h
def violB (db ks:List AtomD) (n i j:Nat):Bool:=
 match ks[n]?,db[i]?,db[j]? with
 |some k,some x,some y=>decide (x.1=k.1)&&(decide (y.1=k.1)&&(agreeB x.2 y.2 k.2 && !decide (x.2=y.2)))
 |_,_,_=>false
theorem viol_at {db ks:List AtomD} {n i j:Nat} {k x y:AtomD} (hk:ks[n]?=some k) (hx:db[i]?=some x) (hy:db[j]?=some y):violB db ks n i j=(decide (x.1=k.1)&&(decide (y.1=k.1)&&(agreeB x.2 y.2 k.2 && !decide (x.2=y.2)))):=by
 unfold violB;rw[hk,hx,hy]
def FirstV (db ks:List AtomD) (n i j:Nat):Prop:=violB db ks n i j=true∧i<j∧∀n' i' j',i'<j'→violB db ks n' i' j'=true→n<n'∨n=n'∧(i<i'∨i=i'∧j≤j')
open Classical in
noncomputable def fvN (db ks:List AtomD):Int × Int × Int:=if h:∃t:Nat × Nat × Nat,FirstV db ks t.1 t.2.1 t.2.2 then (((Classical.choose h).1:Int),((Classical.choose h).2.1:Int),((Classical.choose h).2.2:Int)) else (-1,-1,-1)
theorem fv_at {db ks:List AtomD} {n i j:Nat} (h:FirstV db ks n i j):fvN db ks=((n:Int),(i:Int),(j:Int)):=by
 have hE:∃t:Nat × Nat × Nat,FirstV db ks t.1 t.2.1 t.2.2:=⟨(n,i,j),h⟩;unfold fvN;rw[dif_pos hE];obtain⟨a1,a2,a3⟩:=Classical.choose_spec hE;have e1:=h.2.2 _ _ _ a2 a1;have e2:=a3 _ _ _ h.2.1 h.1;have:(Classical.choose hE).1=n∧(Classical.choose hE).2.1=i∧(Classical.choose hE).2.2=j:=by omega
 rw[this.1,this.2.1,this.2.2]
theorem fv_none {db ks:List AtomD} (h:∀n i j,i<j→violB db ks n i j=false):fvN db ks=(-1,-1,-1):=by
 unfold fvN;rw[dif_neg];rintro⟨t,h1,h2,_⟩;rw[h _ _ _ h2] at h1;cases h1
theorem viol_in {db ks:List AtomD} {n i j:Nat} (h:violB db ks n i j=true):n<ks.length∧i<db.length∧j<db.length:=by
 unfold violB at h
 split at h
 ·rename_i k x y h1 h2 h3
  exact⟨(List.getElem?_eq_some_iff.1 h1).1,(List.getElem?_eq_some_iff.1 h2).1,(List.getElem?_eq_some_iff.1 h3).1⟩
 ·cases h
set_option maxHeartbeats 4000000 in
theorem sAgree_any (w:World) (va vb vl:Value) (a b l:List Int) (ha:Ints w va a) (hb:Ints w vb b) (hl:Ints w vl l) :
  Calls Tryz.prog 106 #[va,vb,vl] w (GaveBool w (agreeB a b l)):=by
 obtain⟨pa,na,ca,rfl,hla,hna,hma,hca⟩:=ha.cases;obtain⟨pb,nb,cb,rfl,hlb,hnb,hmb,hcb⟩:=hb.cases;obtain⟨pl,n,cl,rfl,hll,hn,hm,hcl⟩:=hl.cases;unfold maxLen at hma hmb hm;have HCA:=Lib.hid hca;have HCB:=Lib.hid hcb;have HCL:=Lib.hid hcl;have HLA:=Lib.hid hla;have HLB:=Lib.hid hlb;have HLL:=Lib.hid hll;clear ha hb hl hca hcb hcl hla hlb hll;go_enter Tryz.func106,Tryz.ntmps106
 go_wp2_with fail
 go_loopw [7] (fun iv wr=>∃i:Nat,i≤n∧iv=.int .i64 i∧Below w.heap.size w wr∧Hid (∀j,j<i→agreeAt a b (l.getD j 0)=true)) (fun iv _=>n-(intOf iv).toNat)
 case atStart=>exact⟨0,by omega,rfl,Below.refl _ _,fun j hj=>by omega⟩
 case round=>
  obtain⟨i,hi,rfl,hb,HE⟩:=hrel;have HB:=Lib.hid hb;by_cases hlt:i<n
  ·obtain⟨bl,ol,rfl,hbw,hc⟩:=HCL.out (by omega);have c1:=cell_regrown (w:=wr) (cellk hb (hc i hlt));have hi0:(0:Int)≤i:=by omega
   have hi1:(i:Int)<n:=by omega
   have HNO:Hid (agreeAt a b (l.getD i 0)=false→agreeB a b l=false):=fun h=>agree_no i (by rw[HLL.out];exact hlt) h
   have HY:Hid (agreeAt a b (l.getD i 0)=true→∀j,j<i+1→agreeAt a b (l.getD j 0)=true):=fun h j hj=>by
    rcases Nat.lt_or_ge j i with h7|h7
    ·exact HE.out j h7
    ·obtain rfl:j=i:=by omega
     exact h
   generalize l.getD i 0=p at *;have hI:=Lib.hid (fun w=>l1In_any p 0 ((na:Int)-1) w);clear hc hbw HE
   cases h1:inB p 0 ((na:Int)-1) with
   |false=>
    have HQ:=Lib.hid (HNO.out (by unfold agreeAt;rw[HLA.out,h1];rfl));rw[h1] at hI;clear h1 HNO HY hb;go_wp2_with fail
    refine wp_region_quiet_below (by kernel_rfl) (by kernel_rfl) ?_
    repeat (any_goals (first|go_big_quiet_step ((first|(go_at_call 98;exact Calls.regrown_of ((hI.out _).mono fun e w' ⟨he,hw⟩=>⟨he,by rw[hw];exact Below.refl _ _⟩))))|quiet_step ((first|(go_at_call 98;exact Calls.regrown_of ((hI.out _).mono fun e w' ⟨he,hw⟩=>⟨he,by rw[hw];exact Below.refl _ _⟩))))))
    refine wpQuiet_nil ?_;intro _ hw';obtain⟨⟨dq,osq⟩,hw''⟩:=hw';subst hw'';go_wp2_with fail
    go_ret;exact⟨ret_b HQ.out.symm,bnext HB.out (below_regrown _ _ _)⟩
   |true=>
    have h2:0≤p∧p≤(na:Int)-1:=of_decide_eq_true h1;obtain⟨m,rfl⟩:=Int.eq_ofNat_of_zero_le h2.1;have hma1:m<na:=by omega
    have hA0:(0:Int)≤m:=by omega
    have hA1:(m:Int)<na:=by omega
    obtain⟨ba,oa,rfl,_,hca⟩:=HCA.out (by omega);have c2:=cell_regrown (w:=wr) (cellk hb (hca m hma1));have HAT:Hid (agreeAt a b (m:Int)=(decide ((m:Int)<(nb:Int))&&decide (a.getD m 0=b.getD m 0))):=by unfold Hid agreeAt;rw[HLA.out,h1,HLB.out,Int.toNat_natCast];rfl
    rw[h1] at hI;clear hca h1 h2;by_cases h3:m<nb
    ·obtain⟨bb,ob,rfl,_,hcb⟩:=HCB.out (by omega);have c3:=cell_regrown (w:=wr) (cellk hb (hcb m h3));have hB1:(m:Int)<nb:=by omega
     have hB2:¬((nb:Int)≤m):=by omega
     have HAT2:Hid (agreeAt a b (m:Int)=decide (a.getD m 0=b.getD m 0)):=by unfold Hid;rw[HAT.out,decide_eq_true hB1];rfl
     clear hcb HAT hb;generalize a.getD m 0=x at *;generalize b.getD m 0=y at *;by_cases h4:x=y
     ·have HE:=Lib.hid (HY.out (by rw[HAT2.out,decide_eq_true h4]));subst h4;clear HNO HY HAT2;go_wp2_with fail
      refine wp_region_quiet_below (by kernel_rfl) (by kernel_rfl) ?_
      repeat (any_goals (first|go_big_quiet_step ((first|(go_at_call 98;exact Calls.regrown_of ((hI.out _).mono fun e w' ⟨he,hw⟩=>⟨he,by rw[hw];exact Below.refl _ _⟩))))|quiet_step ((first|(go_at_call 98;exact Calls.regrown_of ((hI.out _).mono fun e w' ⟨he,hw⟩=>⟨he,by rw[hw];exact Below.refl _ _⟩))))))
      refine wpQuiet_nil ?_;intro _ hw';obtain⟨⟨dq,osq⟩,hw''⟩:=hw';subst hw'';go_wp2_with fail
      exact⟨⟨i+1,by omega,by simp,bnext HB.out (below_regrown _ _ _),HE.out⟩,by simp[intOf];omega⟩
     ·have HQ:=Lib.hid (HNO.out (by rw[HAT2.out,decide_eq_false h4]));have q:(x != y)=true:=bne_iff_ne.2 h4;clear HNO HY HAT2 h4;go_wp2_with fail
      refine wp_region_quiet_below (by kernel_rfl) (by kernel_rfl) ?_
      repeat (any_goals (first|go_big_quiet_step ((first|(go_at_call 98;exact Calls.regrown_of ((hI.out _).mono fun e w' ⟨he,hw⟩=>⟨he,by rw[hw];exact Below.refl _ _⟩))))|quiet_step ((first|(go_at_call 98;exact Calls.regrown_of ((hI.out _).mono fun e w' ⟨he,hw⟩=>⟨he,by rw[hw];exact Below.refl _ _⟩))))))
      refine wpQuiet_nil ?_;intro _ hw';obtain⟨⟨dq,osq⟩,hw''⟩:=hw';subst hw'';go_wp2_with fail
      go_ret;exact⟨ret_b HQ.out.symm,bnext HB.out (below_regrown _ _ _)⟩
    ·have HQ:=Lib.hid (HNO.out (by rw[HAT.out,decide_eq_false (by omega)];rfl));have hB2:(nb:Int)≤m:=by omega
     clear HNO HY HAT hb;go_wp2_with fail
     refine wp_region_quiet_below (by kernel_rfl) (by kernel_rfl) ?_
     repeat (any_goals (first|go_big_quiet_step ((first|(go_at_call 98;exact Calls.regrown_of ((hI.out _).mono fun e w' ⟨he,hw⟩=>⟨he,by rw[hw];exact Below.refl _ _⟩))))|quiet_step ((first|(go_at_call 98;exact Calls.regrown_of ((hI.out _).mono fun e w' ⟨he,hw⟩=>⟨he,by rw[hw];exact Below.refl _ _⟩))))))
     refine wpQuiet_nil ?_;intro _ hw';obtain⟨⟨dq,osq⟩,hw''⟩:=hw';subst hw'';go_wp2_with fail
     go_ret;exact⟨ret_b HQ.out.symm,bnext HB.out (below_regrown _ _ _)⟩
  ·obtain rfl:i=n:=by omega
   have HQ:=Lib.hid (agree_yes (a:=a) (b:=b) (l:=l) (fun j hj=>HE.out j (by rw[←HLL.out];exact hj)));clear hb;go_wp2_with fail
   go_ret;exact⟨ret_b HQ.out.symm,HB.out⟩
set_option maxHeartbeats 4000000 in
theorem sIsKey_any (w:World) (r:Int) (vs v:Value) (s l:List Int) (hs:Ints w vs s) (h:Ints w v l) :
  Calls Tryz.prog 44 #[.agg #[vs],.agg #[.int .i64 r,v]] w (GaveBool w (isKeyB s r l)):=by
 obtain⟨sa,sn,sc,rfl,hls,hsn,hsm,hsc⟩:=hs.cases;obtain⟨a,n,cap,rfl,hl,hn,hm,hcell⟩:=h.cases;unfold maxLen at hm hsm;have hb0:∀a b,Below w.heap.size w ((w.alloc a).alloc b):=fun a b=>((Below.refl _ _).alloc (Nat.le_refl _) _).alloc (by simp) _
 have HB0:=Lib.hid hb0;have HCS:=Lib.hid hsc;have HC:=Lib.hid hcell;have HLS:=Lib.hid hls;have HL:=Lib.hid hl;have hS:=Lib.hid (fun w h=>sIsSchema_any w (.slice sa sn sc) s h);have HS:=Lib.hid hs;clear hs h hsc hcell hb0
 cases h1:isSchemaB s with
 |false=>
  have HQ:=Lib.hid (key_1 (l:=l) (r:=r) h1);rw[h1] at hS;clear h1 hl hls;go_enter Tryz.func44,Tryz.ntmps44
  go_wp2_with fail
  refine (hS.out _ (HS.out.below (HB0.out _ _))).mono ?_;rintro e w1 ⟨rfl,hb⟩;have HB1:=Lib.hid (bnext (HB0.out _ _) hb);clear hb;go_wp2_with fail
  go_ret;exact⟨ret_b HQ.out.symm,HB1.out⟩
 |true=>
  rw[h1] at hS;have hI:=Lib.hid (fun w=>l1In_any r 0 ((sn:Int)-1) w)
  cases h2:inB r 0 ((sn:Int)-1) with
  |false=>
   have HQ:=Lib.hid (key_2 (l:=l) (r:=r) (s:=s) (by rw[HLS.out];exact h2));rw[h2] at hI;clear h1 h2 hl hls;go_enter Tryz.func44,Tryz.ntmps44
   go_wp2_with fail
   refine (hS.out _ (HS.out.below (HB0.out _ _))).mono ?_;rintro e w1 ⟨rfl,hb⟩;have HB1:=Lib.hid (bnext (HB0.out _ _) hb);have k0:=cellk hb (b:=w.heap.size) (o:=0) (v:=.slice sa sn sc) (by simp);have k1:=cellk hb (b:=w.heap.size+1) (o:=0) (v:=.int .i64 r) (by simp);have k2:=cellk hb (b:=w.heap.size+1) (o:=1) (v:=.slice a n cap) (by simp);clear hb;go_wp2_with fail
   refine (hI.out _).mono ?_;rintro e w2 ⟨rfl,rfl⟩;go_wp2_with fail
   go_ret;exact⟨ret_b HQ.out.symm,HB1.out⟩
  |true=>
   rw[h2] at hI;have hJ:=Lib.hid (fun w=>l1In_any (n:Int) 1 3 w)
   cases h3:inB (n:Int) 1 3 with
   |false=>
    have HQ:=Lib.hid (key_3 (l:=l) (r:=r) (s:=s) (by rw[HL.out];exact h3));rw[h3] at hJ;clear h1 h2 h3 hl hls;go_enter Tryz.func44,Tryz.ntmps44
    go_wp2_with fail
    refine (hS.out _ (HS.out.below (HB0.out _ _))).mono ?_;rintro e w1 ⟨rfl,hb⟩;have HB1:=Lib.hid (bnext (HB0.out _ _) hb);have k0:=cellk hb (b:=w.heap.size) (o:=0) (v:=.slice sa sn sc) (by simp);have k1:=cellk hb (b:=w.heap.size+1) (o:=0) (v:=.int .i64 r) (by simp);have k2:=cellk hb (b:=w.heap.size+1) (o:=1) (v:=.slice a n cap) (by simp);clear hb;go_wp2_with fail
    refine (hI.out _).mono ?_;rintro e w2 ⟨rfl,rfl⟩;go_wp2_with fail
    refine (hJ.out _).mono ?_;rintro e w2 ⟨rfl,rfl⟩;go_wp2_with fail
    go_ret;exact⟨ret_b HQ.out.symm,HB1.out⟩
   |true=>
    rw[h3] at hJ;have h4:0≤r∧r≤(sn:Int)-1:=of_decide_eq_true h2;obtain⟨k,rfl⟩:=Int.eq_ofNat_of_zero_le h4.1;have hk:k<sn:=by omega
    have hk0:(0:Int)≤k:=by omega
    have hk1:(k:Int)<sn:=by omega
    obtain⟨sb,so,rfl,_,hcs⟩:=HCS.out (by omega);have HCK:=Lib.hid (hcs k hk);have HYES:Hid ((∀i,i<l.length→plK s k l i=true)→isKeyB s k l=true):=fun h=>key_5 h1 (by rw[HLS.out];exact h2) (by rw[HL.out];exact h3) h
    have HNO:Hid (∀i,i<l.length→plK s k l i=false→isKeyB s k l=false):=fun i hi h=>key_4 i hi h
    have HPL:Hid (∀i,plK s k l i=(inB (l.getD i 0) 0 (s.getD k 0-1)&&(decide (i=0)||decide (l.getD (i-1) 0<l.getD i 0)))):=fun i=>by unfold plK;rw[Int.toNat_natCast]
    have harb:inI (s.getD k 0-1):=by
     have h5:=inI_getD HS.out.1 k;unfold isSchemaB at h1;rw[Bool.and_eq_true] at h1;have h6:=List.all_eq_true.1 h1.1 _ (getD_mem (l:=s) (j:=k) (by rw[HLS.out];exact hk));have h7:1≤s.getD k 0∧s.getD k 0≤3:=of_decide_eq_true h6;unfold inI at h5 ⊢;omega
    have hwr:wrap64 (s.getD k 0-1)=s.getD k 0-1:=by unfold inI at harb;unfold wrap64;omega
    generalize s.getD k 0=ar at *;clear h1 h2 h3 h4 hl hls hcs;go_enter Tryz.func44,Tryz.ntmps44
    go_wp2_with fail
    refine (hS.out _ (HS.out.below (HB0.out _ _))).mono ?_;rintro e w1 ⟨rfl,hb⟩;have HB1:=Lib.hid (bnext (HB0.out _ _) hb);have k0:=cellk hb (b:=w.heap.size) (o:=0) (v:=.slice (some ⟨sb,so,none⟩) sn sc) (by simp);have k1:=cellk hb (b:=w.heap.size+1) (o:=0) (v:=.int .i64 k) (by simp);have k2:=cellk hb (b:=w.heap.size+1) (o:=1) (v:=.slice a n cap) (by simp);have K0:=Lib.hid k0;have K1:=Lib.hid k1;have K2:=Lib.hid k2;clear hb;go_wp2_with fail
    refine (hI.out _).mono ?_;rintro e w2 ⟨rfl,rfl⟩;go_wp2_with fail
    refine (hJ.out _).mono ?_;rintro e w2 ⟨rfl,rfl⟩;clear hI hJ hS;go_wp2_with fail
    go_loopw [5] (fun iv wr=>∃i:Nat,i≤n∧iv=.int .i64 i∧Below w1.heap.size w1 wr∧Hid (∀j,j<i→plK s k l j=true)) (fun iv _=>n-(intOf iv).toNat)
    case atStart=>exact⟨0,by omega,rfl,Below.refl _ _,fun j hj=>by omega⟩
    case round=>
     obtain⟨i,hi,rfl,hb,HE⟩:=hrel;have HB:=Lib.hid hb;have q2:=cellk hb K2.out;by_cases hlt:i<n
     ·obtain⟨bl,ol,rfl,hbw,hc⟩:=HC.out (by omega);have c0:=cell_regrown (w:=wr) (cellk hb K0.out);have c1:=cell_regrown (w:=wr) (cellk hb K1.out);have c2:=cell_regrown (w:=wr) (cellk hb K2.out);have c3:=cell_regrown (w:=wr) (cellk (bnext HB1.out hb) (hc i hlt));have c4:=cell_regrown (w:=wr) (cellk (bnext HB1.out hb) HCK.out);have hi0:(0:Int)≤i:=by omega
      have hi1:(i:Int)<n:=by omega
      have HN:=Lib.hid (HNO.out i (by rw[HL.out];exact hlt))
      have HY:Hid (plK s k l i=true→∀j,j<i+1→plK s k l j=true):=fun h j hj=>by
       rcases Nat.lt_or_ge j i with h7|h7
       ·exact HE.out j h7
       ·obtain rfl:j=i:=by omega
        exact h
      have HP:=Lib.hid (HPL.out i);have HCP:Hid (0<i→w.cell? ⟨bl,ol+(i-1),none⟩=some (.int .i64 (l.getD (i-1) 0))):=fun h=>hc (i-1) (by omega)
      have hI:=Lib.hid (fun w=>l1In_any (l.getD i 0) 0 (ar-1) w);clear hc hbw
      cases h5:inB (l.getD i 0) 0 (ar-1) with
      |false=>
       have HQ:=Lib.hid (HN.out (by rw[HP.out,h5];rfl));rw[h5] at hI;clear h5 HN HY HP HCP hb;generalize l.getD i 0=x at *;go_wp2_with fail
       refine wp_region_quiet_below (by kernel_rfl) (by kernel_rfl) ?_
       repeat (any_goals (first|go_big_quiet_step ((first|(go_at_call 98;exact Calls.regrown_of ((hI.out _).mono fun e w' ⟨he,hw⟩=>⟨he,by rw[hw];exact Below.refl _ _⟩))))|quiet_step ((first|(go_at_call 98;exact Calls.regrown_of ((hI.out _).mono fun e w' ⟨he,hw⟩=>⟨he,by rw[hw];exact Below.refl _ _⟩))))))
       refine wpQuiet_nil ?_;intro _ hw';obtain⟨⟨dq,osq⟩,hw''⟩:=hw';subst hw'';go_wp2_with fail
       go_ret;exact⟨ret_b HQ.out.symm,bnext HB1.out (bnext HB.out (below_regrown _ _ _))⟩
      |true=>
       rw[h5] at hI;by_cases h6:i=0
       ·have HE2:=Lib.hid (HY.out (by rw[HP.out,h5,decide_eq_true h6];rfl));subst h6;rw[Nat.add_zero] at c3;clear h5 HN HY HP HCP hb HE;generalize l.getD 0 0=x at *;go_wp2_with fail
        refine wp_region_quiet_below (by kernel_rfl) (by kernel_rfl) ?_
        repeat (any_goals (first|go_big_quiet_step ((first|(go_at_call 98;exact Calls.regrown_of ((hI.out _).mono fun e w' ⟨he,hw⟩=>⟨he,by rw[hw];exact Below.refl _ _⟩))))|quiet_step ((first|(go_at_call 98;exact Calls.regrown_of ((hI.out _).mono fun e w' ⟨he,hw⟩=>⟨he,by rw[hw];exact Below.refl _ _⟩))))))
        refine wpQuiet_nil ?_;intro _ hw';obtain⟨⟨dq,osq⟩,hw''⟩:=hw';subst hw'';go_wp2_with fail
        exact⟨⟨0+1,by omega,by simp,bnext HB.out (below_regrown _ _ _),HE2.out⟩,by simp[intOf];omega⟩
       ·have c5:=cell_regrown (w:=wr) (cellk (bnext HB1.out hb) (HCP.out (by omega)));have HP2:Hid (plK s k l i=decide (l.getD (i-1) 0<l.getD i 0)):=by unfold Hid;rw[HP.out,h5,decide_eq_false h6];rfl
        obtain⟨i',rfl⟩:∃i':Nat,i=i'+1:=⟨i-1,by omega⟩
        rw[Nat.add_sub_cancel] at c5 HP2;have hj0:(0:Int)≤i':=by omega
        have hj1:(i':Int)<n:=by omega
        clear h5 h6 HP HCP hb;generalize l.getD (i'+1) 0=x at *;generalize l.getD i' 0=y at *;by_cases h7:y<x
        ·have HE2:=Lib.hid (HY.out (by rw[HP2.out,decide_eq_true h7]));have hg2:¬(x≤y):=by omega
         clear HN HY HP2 HE h7;go_wp2_with fail
         refine wp_region_quiet_below (by kernel_rfl) (by kernel_rfl) ?_
         repeat (any_goals (first|go_big_quiet_step ((first|(go_at_call 98;exact Calls.regrown_of ((hI.out _).mono fun e w' ⟨he,hw⟩=>⟨he,by rw[hw];exact Below.refl _ _⟩))))|quiet_step ((first|(go_at_call 98;exact Calls.regrown_of ((hI.out _).mono fun e w' ⟨he,hw⟩=>⟨he,by rw[hw];exact Below.refl _ _⟩))))))
         refine wpQuiet_nil ?_;intro _ hw';obtain⟨⟨dq,osq⟩,hw''⟩:=hw';subst hw'';go_wp2_with fail
         exact⟨⟨i'+1+1,by omega,by simp,bnext HB.out (below_regrown _ _ _),HE2.out⟩,by simp[intOf];omega⟩
        ·have HQ:=Lib.hid (HN.out (by rw[HP2.out,decide_eq_false h7]));have hg2:x≤y:=by omega
         clear HN HY HP2 h7;go_wp2_with fail
         refine wp_region_quiet_below (by kernel_rfl) (by kernel_rfl) ?_
         repeat (any_goals (first|go_big_quiet_step ((first|(go_at_call 98;exact Calls.regrown_of ((hI.out _).mono fun e w' ⟨he,hw⟩=>⟨he,by rw[hw];exact Below.refl _ _⟩))))|quiet_step ((first|(go_at_call 98;exact Calls.regrown_of ((hI.out _).mono fun e w' ⟨he,hw⟩=>⟨he,by rw[hw];exact Below.refl _ _⟩))))))
         refine wpQuiet_nil ?_;intro _ hw';obtain⟨⟨dq,osq⟩,hw''⟩:=hw';subst hw'';go_wp2_with fail
         go_ret;exact⟨ret_b HQ.out.symm,bnext HB1.out (bnext HB.out (below_regrown _ _ _))⟩
     ·obtain rfl:i=n:=by omega
      have HQ:=Lib.hid (HYES.out (fun j hj=>HE.out j (by rw[←HL.out];exact hj)));clear hb;go_wp2_with fail
      go_ret;exact⟨ret_b HQ.out.symm,bnext HB1.out HB.out⟩
end Go.Proofs.YtpedpbbiamhgdaaGreatDoor
namespace Go.Proofs.YtpedpbbiamhgdaaGreatDoor
open Go Go.Sort Go.RowKit
set_option linter.unusedVariables false
theorem allK_no {l:List AtomD} {p:AtomD→Bool} {i:Nat} {x:AtomD} (h:l[i]?=some x) (h2:p x=false):l.all p=false:=by
 rw[List.all_eq_false];exact⟨x,List.mem_of_getElem? h,by rw[h2];decide⟩
theorem allK_yes {l:List AtomD} {p:AtomD→Bool} (h:∀(j:Nat) (x:AtomD),l[j]?=some x→p x=true):l.all p=true:=
 List.all_eq_true.2 (fun x hx=>by obtain⟨j,hj⟩:=List.mem_iff_getElem?.1 hx;exact h j x hj)
set_option maxHeartbeats 4000000 in
theorem sAreKeys_any (w:World) (vs v:Value) (s:List Int) (l:List AtomD) (hvs:RdSchema w vs s) (h:RdAtomS w v l) :
  Calls Tryz.prog 13 #[vs,v] w (GaveBool w (areKeysB s l)):=by
 obtain⟨sa,sn,sc,rfl,hs⟩:=hvs;obtain⟨a,n,c,rfl,h⟩:=h;obtain⟨hl,hn,hm,hcell⟩:=h.at
 unfold maxLen at hm;have hb0:∀a,Below w.heap.size w (w.alloc a):=fun a=>(Below.refl _ _).alloc (Nat.le_refl _) _
 have HB0:=Lib.hid hb0;have HC:=Lib.hid hcell;have HL:=Lib.hid hl;have HS:=Lib.hid hs;have hK:=Lib.hid (fun w r v l a b=>sIsKey_any w r (.slice sa sn sc) v s l a b);have hS:=Lib.hid (fun w h=>sIsSchema_any w (.slice sa sn sc) s h);obtain⟨q1,hq1⟩:∃q,isSchemaB s=q:=⟨_,rfl⟩
 rw[hq1] at hS;have HQ1:=Lib.hid hq1;clear hs h hcell hl hb0 hq1;go_enter Tryz.func13,Tryz.ntmps13
 go_wp2_with fail
 obtain⟨W,hW⟩:∃W,W=w.alloc (.cells #[.slice sa sn sc] 26):=⟨_,rfl⟩
 have HBW:Hid (Below w.heap.size w W):=by rw[hW];exact HB0.out _
 have K0:Hid (W.cell? ⟨w.heap.size,0,none⟩=some (.slice sa sn sc)):=Lib.hid (by rw[hW];simp);rw[←hW];clear hW
 go_loopw [5] (fun iv wr=>∃i:Nat,i≤n∧iv=.int .i64 i∧Below W.heap.size W wr∧Hid (∀(j:Nat) (x:AtomD),j<i→l[j]?=some x→isKeyB s x.1 x.2=true)) (fun iv _=>n-(intOf iv).toNat)
 case atStart=>exact⟨0,by omega,rfl,Below.refl _ _,fun j x hj=>by omega⟩
 case round=>
  obtain⟨i,hi,rfl,hb,HE⟩:=hrel;have HB:=Lib.hid hb;by_cases hlt:i<n
  ·obtain⟨b,off,rfl,hbw,hc⟩:=HC.out (by omega);obtain⟨e,hd⟩:∃e,l[i]?=some e:=⟨l[i]'(by rw[HL.out];exact hlt),List.getElem?_eq_getElem (by rw[HL.out];exact hlt)⟩
   obtain⟨ea,em,ec,c0,c1,hdi,hints⟩:=atomAt (n:=n) hc i e hd;have kk:=cell_regrown (w:=wr) (cellk hb K0.out);have k0:=cell_regrown (w:=wr) (cellk (bnext HBW.out hb) c0);have k1:=cell_regrown (w:=wr) (cellk (bnext HBW.out hb) c1);have hi0:(0:Int)≤i:=by omega
   have hi1:(i:Int)<n:=by omega
   have hbx:=bnext HBW.out hb;have hcall:=Lib.hid (fun dn os=>hK.out (grow (redrawn wr dn) os) e.1 (.slice ea em ec) e.2 (HS.out.below (hbx.trans ((below_regrown wr dn os).mono hbx.size))) (hints.below (hbx.trans ((below_regrown wr dn os).mono hbx.size))));have HD:=Lib.hid hd;obtain⟨q,hq⟩:∃q,isKeyB s e.1 e.2=q:=⟨_,rfl⟩
   rw[hq] at hcall;have HNO:Hid (q=false→areKeysB s l=false):=fun h=>by unfold areKeysB;rw[allK_no HD.out (by rw[hq,h]),Bool.false_and]
   have HY:Hid (q=true→∀(j:Nat) (x:AtomD),j<i+1→l[j]?=some x→isKeyB s x.1 x.2=true):=fun h j x hj hx=>by
    rcases Nat.lt_or_ge j i with h7|h7
    ·exact HE.out j x h7 hx
    ·obtain rfl:j=i:=by omega
     rw[HD.out] at hx;cases hx;exact hq.trans h
   clear hc hbw hb hd hdi hints c0 c1 hbx hq;generalize e.1=r at *
   cases q with
   |false=>
    have HQ:=Lib.hid (HNO.out rfl);clear HNO HY;go_wp2_with fail
    refine wp_region_quiet_below (by kernel_rfl) (by kernel_rfl) ?_
    repeat (any_goals (first|go_big_quiet_step ((first|(go_at_call 44;exact Calls.regrown_of (hcall.out _ _))))|quiet_step ((first|(go_at_call 44;exact Calls.regrown_of (hcall.out _ _))))))
    refine wpQuiet_nil ?_;intro _ hw';obtain⟨⟨dq,osq⟩,hw''⟩:=hw';subst hw'';go_wp2_with fail
    go_ret;exact⟨ret_b HQ.out.symm,bnext HBW.out (bnext HB.out (below_regrown _ _ _))⟩
   |true=>
    have HE2:=Lib.hid (HY.out rfl);clear HNO HY HE;go_wp2_with fail
    refine wp_region_quiet_below (by kernel_rfl) (by kernel_rfl) ?_
    repeat (any_goals (first|go_big_quiet_step ((first|(go_at_call 44;exact Calls.regrown_of (hcall.out _ _))))|quiet_step ((first|(go_at_call 44;exact Calls.regrown_of (hcall.out _ _))))))
    refine wpQuiet_nil ?_;intro _ hw';obtain⟨⟨dq,osq⟩,hw''⟩:=hw';subst hw'';go_wp2_with fail
    exact⟨⟨i+1,by omega,by simp,bnext HB.out (below_regrown _ _ _),HE2.out⟩,by simp[intOf];omega⟩
  ·obtain rfl:i=n:=by omega
   have hall:l.all (fun k=>isKeyB s k.1 k.2)=true:=allK_yes (fun j x hx=>HE.out j x (by rw[←HL.out];exact (List.getElem?_eq_some_iff.1 hx).1) hx);have HQ:Hid (areKeysB s l=(q1&&decide (i≤4))):=by unfold Hid areKeysB;rw[hall,HQ1.out,HL.out];rfl
   have kk:=cellk hb K0.out;have HBX:=Lib.hid (bnext HBW.out hb);have hcall:=Lib.hid (hS.out _ (HS.out.below HBX.out));clear hb hall
   cases q1 with
   |false=>
    go_wp2_with fail
    refine hcall.out.mono ?_;rintro e w1 ⟨rfl,hb⟩;have HB1:=Lib.hid (bnext HBX.out hb);clear hb;go_wp2_with fail
    go_ret;exact⟨ret_b (by rw[HQ.out];rfl),HB1.out⟩
   |true=>
    go_wp2_with fail
    refine hcall.out.mono ?_;rintro e w1 ⟨rfl,hb⟩;have HB1:=Lib.hid (bnext HBX.out hb);clear hb;go_wp2_with fail
    go_ret;exact⟨ret_b (by rw[HQ.out,Bool.true_and];exact decide_eq_decide.2 (by omega)),HB1.out⟩
def NoneTo (db ks:List AtomD) (n i j:Nat):Prop:=∀n' i' j',i'<j'→(n'<n∨n'=n∧(i'<i∨i'=i∧j'<j))→violB db ks n' i' j'=false
theorem none_start (db ks:List AtomD):NoneTo db ks 0 0 0:=fun n' i' j' _ h=>by omega
theorem none_first {db ks:List AtomD} {n i j:Nat} (h:NoneTo db ks n i j) (hij:i<j) (hv:violB db ks n i j=true):FirstV db ks n i j:=
 ⟨hv,hij,fun n' i' j' h1 h2=>by
  rcases Nat.lt_or_ge n n' with h3|h3
  ·exact .inl h3
  ·refine .inr ?_;by_cases h4:n'<n
   ·rw[h n' i' j' h1 (.inl h4)] at h2;cases h2
   ·have e:n=n':=by omega
    subst e;refine⟨rfl,?_⟩;rcases Nat.lt_or_ge i i' with h5|h5
    ·exact .inl h5
    ·refine .inr ?_;by_cases h6:i'<i
     ·rw[h n i' j' h1 (.inr ⟨rfl,.inl h6⟩)] at h2;cases h2
     ·have e:i=i':=by omega
      subst e;refine⟨rfl,?_⟩;rcases Nat.lt_or_ge j' j with h7|h7
      ·rw[h n i j' h1 (.inr ⟨rfl,.inr ⟨rfl,h7⟩⟩)] at h2;cases h2
      ·exact h7⟩
theorem none_j {db ks:List AtomD} {n i j:Nat} (h:NoneTo db ks n i j) (hv:violB db ks n i j=false):NoneTo db ks n i (j+1):=fun n' i' j' h1 h2=>by
 by_cases e:n'=n∧i'=i∧j'=j
 ·rw[e.1,e.2.1,e.2.2];exact hv
 ·exact h n' i' j' h1 (by omega)
theorem none_i {db ks:List AtomD} {n i:Nat} (h:NoneTo db ks n i db.length):NoneTo db ks n (i+1) (i+1+1):=fun n' i' j' h1 h2=>by
 cases hv:violB db ks n' i' j' with
 |false=>rfl
 |true=>
  have:=viol_in hv;rw[h n' i' j' h1 (by omega)] at hv;cases hv
theorem none_i0 {db ks:List AtomD} {n:Nat} (h:NoneTo db ks n 0 0):NoneTo db ks n 0 1:=fun n' i' j' h1 h2=>h n' i' j' h1 (by omega)
theorem none_n {db ks:List AtomD} {n i j:Nat} (h:NoneTo db ks n i j) (hi:db.length≤i):NoneTo db ks (n+1) 0 0:=fun n' i' j' h1 h2=>by
 cases hv:violB db ks n' i' j' with
 |false=>rfl
 |true=>
  have:=viol_in hv;rw[h n' i' j' h1 (by omega)] at hv;cases hv
theorem none_all {db ks:List AtomD} (h:NoneTo db ks ks.length 0 0):fvN db ks=(-1,-1,-1):=fv_none (fun n i j h1=>by
 cases hv:violB db ks n i j with
 |false=>rfl
 |true=>
  have:=viol_in hv;rw[h n i j h1 (by omega)] at hv;cases hv)
set_option maxRecDepth 100000 in
set_option maxHeartbeats 8000000 in
theorem sFirstV_any (w:World) (vd vk:Value) (db ks:List AtomD) (hd:RdAtomS w vd db) (hk:RdAtomS w vk ks) :
  Calls Tryz.prog 48 #[vd,vk] w (GaveV (.tuple #[.int .i64 (fvN db ks).1,.int .i64 (fvN db ks).2.1,.int .i64 (fvN db ks).2.2]) w):=by
 obtain⟨a,dn,c,rfl,hd⟩:=hd;obtain⟨hdl,hdn,hdm,hdc⟩:=hd.at
 obtain⟨ka,kn,kc,rfl,hk⟩:=hk;obtain⟨hkl,hkn,hkm,hkc⟩:=hk.at
 unfold maxLen at hdm hkm;have HDC:=Lib.hid hdc;have HKC:=Lib.hid hkc;have HDL:=Lib.hid hdl;have HKL:=Lib.hid hkl;have hAG:=Lib.hid (fun w va vb vl a b l h1 h2 h3=>sAgree_any w va vb vl a b l h1 h2 h3);have hIN:=Lib.hid (fun w v v' l l' a b=>sInts_any w v v' l l' a b);clear hd hk hdc hkc hdl hkl;go_enter Tryz.func48,Tryz.ntmps48
 go_wp2_with fail
 go_loopw [7] (fun nv wr=>∃n:Nat,n≤kn∧nv=.int .i64 n∧Below w.heap.size w wr∧Hid (NoneTo db ks n 0 0)) (fun nv _=>kn-(intOf nv).toNat)
 case atStart=>exact⟨0,by omega,rfl,Below.refl _ _,none_start _ _⟩
 case round=>
  obtain⟨wn,hwn⟩:∃x,x=wr:=⟨_,rfl⟩
  subst hwn;obtain⟨n,hn,rfl,hb,HN⟩:=hrel;have HBN:=Lib.hid hb;clear hb;by_cases hltn:n<kn
  ·obtain⟨kb,ko,rfl,hkw,hkc⟩:=HKC.out (by omega);obtain⟨k,hkk⟩:∃e,ks[n]?=some e:=⟨ks[n]'(by rw[HKL.out];exact hltn),List.getElem?_eq_getElem (by rw[HKL.out];exact hltn)⟩
   obtain⟨kea,kem,kec,kc0,kc1,_,kints⟩:=atomAt (n:=kn) hkc n k hkk;have HK0:=Lib.hid kc0;have HK1:=Lib.hid kc1;have HKI:=Lib.hid kints;have HKK:=Lib.hid hkk;have hn0:(0:Int)≤n:=by omega
   have hn1:(n:Int)<kn:=by omega
   clear hkw hkc kc0 kc1 kints hkk;go_wp2_with fail
   go_loopw [8] (fun iv wr=>∃i:Nat,i≤dn∧iv=.int .i64 i∧Below w.heap.size w wr∧Hid (NoneTo db ks n i (i+1))) (fun iv _=>dn-(intOf iv).toNat)
   case atStart=>exact⟨0,by omega,rfl,HBN.out,none_i0 HN.out⟩
   case round=>
    obtain⟨wi,hwi⟩:∃x,x=wr:=⟨_,rfl⟩
    subst hwi;obtain⟨i,hi,rfl,hb,HI⟩:=hrel;have HBI:=Lib.hid hb;clear hb;by_cases hlti:i<dn
    ·obtain⟨b,off,rfl,hdw,hdc⟩:=HDC.out (by omega);obtain⟨x,hxx⟩:∃e,db[i]?=some e:=⟨db[i]'(by rw[HDL.out];exact hlti),List.getElem?_eq_getElem (by rw[HDL.out];exact hlti)⟩
     obtain⟨xa,xm,xc,xc0,xc1,_,xints⟩:=atomAt (n:=dn) hdc i x hxx;have HX0:=Lib.hid xc0;have HX1:=Lib.hid xc1;have HXI:=Lib.hid xints;have HXX:=Lib.hid hxx;have HDC2:=Lib.hid hdc;have hi0:(0:Int)≤i:=by omega
     have hi1:(i:Int)<dn:=by omega
     clear hdw hdc xc0 xc1 xints hxx;go_wp2_with fail
     go_loopw [9] (fun jv wr=>∃j:Nat,i<j∧j≤dn∧jv=.int .i64 j∧Below w.heap.size w wr∧Hid (NoneTo db ks n i j)) (fun jv _=>dn-(intOf jv).toNat)
     case atStart=>exact⟨i+1,by omega,by omega,by simp,HBI.out,HI.out⟩
     case round=>
      obtain⟨wj,hwj⟩:∃x,x=wr:=⟨_,rfl⟩
      subst hwj;obtain⟨j,hij,hj,rfl,hb,HJ⟩:=hrel;have HB:=Lib.hid hb;by_cases hltj:j<dn
      ·obtain⟨y,hyy⟩:∃e,db[j]?=some e:=⟨db[j]'(by rw[HDL.out];exact hltj),List.getElem?_eq_getElem (by rw[HDL.out];exact hltj)⟩
       obtain⟨ya,ym,yc,yc0,yc1,_,yints⟩:=atomAt (n:=dn) HDC2.out j y hyy;have k0:=cell_regrown (w:=wj) (cellk hb HK0.out);have k1:=cell_regrown (w:=wj) (cellk hb HK1.out);have x0:=cell_regrown (w:=wj) (cellk hb HX0.out);have x1:=cell_regrown (w:=wj) (cellk hb HX1.out);have y0:=cell_regrown (w:=wj) (cellk hb yc0);have y1:=cell_regrown (w:=wj) (cellk hb yc1);have hj0:(0:Int)≤j:=by omega
       have hj1:(j:Int)<dn:=by omega
       have HV:=Lib.hid (viol_at HKK.out HXX.out hyy);have HBR:=Lib.hid (fun d os=>hb.trans ((below_regrown wj d os).mono hb.size));have hc1:=Lib.hid (fun dn os=>hAG.out (grow (redrawn wj dn) os) (.slice xa xm xc) (.slice ya ym yc) (.slice kea kem kec) x.2 y.2 k.2 (HXI.out.below (HBR.out dn os)) (yints.below (HBR.out dn os)) (HKI.out.below (HBR.out dn os)));have hc2:=Lib.hid (fun dn os=>hIN.out (grow (redrawn wj dn) os) (.slice xa xm xc) (.slice ya ym yc) x.2 y.2 (HXI.out.below (HBR.out dn os)) (yints.below (HBR.out dn os)));have HNX:Hid (violB db ks n i j=false→NoneTo db ks n i (j+1)):=fun h=>none_j HJ.out h
       have HFV:Hid (violB db ks n i j=true→fvN db ks=((n:Int),(i:Int),(j:Int))):=fun h=>fv_at (none_first HJ.out hij h)
       have hcases:violB db ks n i j=true∨violB db ks n i j=false:=by cases violB db ks n i j<;>simp
       obtain⟨q1,hq1⟩:∃q,agreeB x.2 y.2 k.2=q:=⟨_,rfl⟩
       obtain⟨q2,hq2⟩:∃q,decide (x.2=y.2)=q:=⟨_,rfl⟩
       rw[hq1] at hc1;rw[hq2] at hc2;have HV2:Hid (violB db ks n i j=(decide (x.1=k.1)&&(decide (y.1=k.1)&&(q1 && !q2)))):=by unfold Hid;rw[HV.out,hq1,hq2]
       clear hb hyy yc0 yc1 yints HJ HV HBR hcases hq1 hq2;generalize x.1=xr at *;generalize y.1=yr at *;generalize k.1=kr at *;by_cases e1:xr=kr
       ·by_cases e2:yr=kr
        ·have HV3:Hid (violB db ks n i j=(q1 && !q2)):=by unfold Hid;rw[HV2.out,decide_eq_true e1,decide_eq_true e2];rfl
         subst e1;subst e2;clear HV2
         cases q1 with
         |false=>
          have HE:=Lib.hid (HNX.out (by rw[HV3.out];rfl));clear HNX HFV HV3;go_wp2_with fail
          refine wp_region_quiet_below (by kernel_rfl) (by kernel_rfl) ?_
          repeat (any_goals (first|go_big_quiet_step ((first|(go_at_call 106;exact Calls.regrown_of (hc1.out _ _))|(go_at_call 50;exact Calls.regrown_of (hc2.out _ _))))|quiet_step ((first|(go_at_call 106;exact Calls.regrown_of (hc1.out _ _))|(go_at_call 50;exact Calls.regrown_of (hc2.out _ _))))))
          refine wpQuiet_nil ?_;intro _ hw';obtain⟨⟨dq,osq⟩,hw''⟩:=hw';subst hw'';go_wp2_with fail
          exact⟨⟨j+1,by omega,by omega,by simp,bnext HB.out (below_regrown _ _ _),HE.out⟩,by simp[intOf];omega⟩
         |true=>
          cases q2 with
          |true=>
           have HE:=Lib.hid (HNX.out (by rw[HV3.out];rfl));clear HNX HFV HV3;go_wp2_with fail
           refine wp_region_quiet_below (by kernel_rfl) (by kernel_rfl) ?_
           repeat (any_goals (first|go_big_quiet_step ((first|(go_at_call 106;exact Calls.regrown_of (hc1.out _ _))|(go_at_call 50;exact Calls.regrown_of (hc2.out _ _))))|quiet_step ((first|(go_at_call 106;exact Calls.regrown_of (hc1.out _ _))|(go_at_call 50;exact Calls.regrown_of (hc2.out _ _))))))
           refine wpQuiet_nil ?_;intro _ hw';obtain⟨⟨dq,osq⟩,hw''⟩:=hw';subst hw'';go_wp2_with fail
           exact⟨⟨j+1,by omega,by omega,by simp,bnext HB.out (below_regrown _ _ _),HE.out⟩,by simp[intOf];omega⟩
          |false=>
           have HQ:=Lib.hid (HFV.out (by rw[HV3.out];rfl));clear HNX HFV HV3;go_wp2_with fail
           refine wp_region_quiet_below (by kernel_rfl) (by kernel_rfl) ?_
           repeat (any_goals (first|go_big_quiet_step ((first|(go_at_call 106;exact Calls.regrown_of (hc1.out _ _))|(go_at_call 50;exact Calls.regrown_of (hc2.out _ _))))|quiet_step ((first|(go_at_call 106;exact Calls.regrown_of (hc1.out _ _))|(go_at_call 50;exact Calls.regrown_of (hc2.out _ _))))))
           refine wpQuiet_nil ?_;intro _ hw';obtain⟨⟨dq,osq⟩,hw''⟩:=hw';subst hw'';go_wp2_with fail
           exact bodyPost_ret (v:=.tuple #[.int .i64 n,.int .i64 i,.int .i64 j]) (by simp[results,Tryz.results48,go_sem]) rfl ⟨by rw[HQ.out],bnext HB.out (below_regrown _ _ _)⟩
        ·have HE:=Lib.hid (HNX.out (by rw[HV2.out,decide_eq_false e2];simp));have q:(yr==kr)=false:=beq_eq_false_iff_ne.2 e2;subst e1;clear HNX HFV HV2 e2;go_wp2_with fail
         refine wp_region_quiet_below (by kernel_rfl) (by kernel_rfl) ?_
         repeat (any_goals (first|go_big_quiet_step ((first|(go_at_call 106;exact Calls.regrown_of (hc1.out _ _))|(go_at_call 50;exact Calls.regrown_of (hc2.out _ _))))|quiet_step ((first|(go_at_call 106;exact Calls.regrown_of (hc1.out _ _))|(go_at_call 50;exact Calls.regrown_of (hc2.out _ _))))))
         refine wpQuiet_nil ?_;intro _ hw';obtain⟨⟨dq,osq⟩,hw''⟩:=hw';subst hw'';go_wp2_with fail
         exact⟨⟨j+1,by omega,by omega,by simp,bnext HB.out (below_regrown _ _ _),HE.out⟩,by simp[intOf];omega⟩
       ·have HE:=Lib.hid (HNX.out (by rw[HV2.out,decide_eq_false e1];rfl));have q:(xr==kr)=false:=beq_eq_false_iff_ne.2 e1;clear HNX HFV HV2 e1;go_wp2_with fail
        refine wp_region_quiet_below (by kernel_rfl) (by kernel_rfl) ?_
        repeat (any_goals (first|go_big_quiet_step ((first|(go_at_call 106;exact Calls.regrown_of (hc1.out _ _))|(go_at_call 50;exact Calls.regrown_of (hc2.out _ _))))|quiet_step ((first|(go_at_call 106;exact Calls.regrown_of (hc1.out _ _))|(go_at_call 50;exact Calls.regrown_of (hc2.out _ _))))))
        refine wpQuiet_nil ?_;intro _ hw';obtain⟨⟨dq,osq⟩,hw''⟩:=hw';subst hw'';go_wp2_with fail
        exact⟨⟨j+1,by omega,by omega,by simp,bnext HB.out (below_regrown _ _ _),HE.out⟩,by simp[intOf];omega⟩
      ·obtain rfl:j=dn:=by omega
       have HE:Hid (NoneTo db ks n (i+1) (i+1+1)):=none_i (by rw[HDL.out];exact HJ.out);clear hb;go_wp2_with fail
       exact⟨⟨i+1,by omega,by simp,HB.out,HE.out⟩,by simp[intOf];omega⟩
    ·obtain rfl:i=dn:=by omega
     have HE:Hid (NoneTo db ks (n+1) 0 0):=none_n HI.out (by rw[HDL.out];exact Nat.le_refl _);go_wp2_with fail
     exact⟨⟨n+1,by omega,by simp,HBI.out,HE.out⟩,by simp[intOf];omega⟩
  ·obtain rfl:n=kn:=by omega
   have HQ:=Lib.hid (none_all (db:=db) (ks:=ks) (by rw[HKL.out];exact HN.out));go_wp2_with fail
   exact bodyPost_ret (v:=.tuple #[.int .i64 (-1),.int .i64 (-1),.int .i64 (-1)]) (by simp[results,Tryz.results48,go_sem]) rfl ⟨by rw[HQ.out],HBN.out⟩
end Go.Proofs.YtpedpbbiamhgdaaGreatDoor
