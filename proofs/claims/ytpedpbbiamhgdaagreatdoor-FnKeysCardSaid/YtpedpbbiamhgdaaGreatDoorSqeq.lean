import Derived.Test.YtpedpbbiamhgdaaGreatDoorSquery
import Derived.Test.YtpedpbbiamhgdaaGreatDoorSatom
namespace Go.Proofs.YtpedpbbiamhgdaaGreatDoor
open Go Go.Sort Go.RowKit
set_option linter.unusedVariables false
set_option maxRecDepth 100000 in
set_option maxHeartbeats 4000000 in
theorem sEqualQueries_any (w:World) (v v':Value) (d d':QueryD) (h:RdQuery w v d) (h':RdQuery w v' d') :
  Calls Tryz.prog 18 #[v,v'] w (GaveBool w (decide (d=d'))):=by
 obtain⟨ha,hn0,hc0,a,n,c,rfl,hi,h⟩:=h;obtain⟨ha',hn0',hc0',a',n',c',rfl,hi',h'⟩:=h';obtain⟨hl,hn,hm,hcell⟩:=h.at
 obtain⟨hl',hn',hm',hcell'⟩:=h'.at
 unfold maxLen at hm hm';have hb0:∀a b,Below w.heap.size w ((w.alloc a).alloc b):=fun a b=>((Below.refl _ _).alloc (Nat.le_refl _) _).alloc (by simp) _
 have hI:=Lib.hid (fun o p=>sInts_any _ _ _ d.1 d'.1 (hi.below (hb0 o p)) (hi'.below (hb0 o p)));have HB0:=Lib.hid hb0;by_cases hd1:d.1=d'.1
 ·rw[decide_eq_true hd1] at hI
  have HQ1:Hid (decide (d=d')=decide (d.2=d'.2)):=by
   unfold Hid;by_cases h2:d.2=d'.2
   ·rw[decide_eq_true h2,decide_eq_true (Prod.ext hd1 h2)]
   ·rw[decide_eq_false h2,decide_eq_false (fun e=>h2 (by rw[e]))]
  by_cases hne:n=n'
  ·subst hne;have HC:=Lib.hid hcell;have HC':=Lib.hid hcell';have HL:=Lib.hid hl;have HL':=Lib.hid hl';have hz:=Lib.hid (fun w r r' v v' l l' a b=>sEqualAtoms_any w r r' v v' l l' a b);rw[HQ1.out];clear h h' hcell hcell' hl hl' hi hi' hb0 hd1 HQ1;go_enter Tryz.func18,Tryz.ntmps18
   go_wp2_with fail
   refine (hI.out _ _).mono ?_;rintro e W ⟨rfl,hb⟩;have HBW:=Lib.hid (bnext (HB0.out _ _) hb);have KQ:=Lib.hid (cellk hb (b:=w.heap.size) (o:=1) (v:=.slice a n c) (by simp));have KQ':=Lib.hid (cellk hb (b:=w.heap.size+1) (o:=1) (v:=.slice a' n c') (by simp));have kq0:=KQ.out;have kq0':=KQ'.out;clear hb;go_wp2_with fail
   clear kq0 kq0'
   go_loopw [5] (fun iv wr=>∃i:Nat,i≤n∧iv=.int .i64 i∧Below W.heap.size W wr∧Hid (∀(j:Nat) (x x':AtomD),j<i→d.2[j]?=some x→d'.2[j]?=some x'→x=x')) (fun iv _=>n-(intOf iv).toNat)
   case atStart=>exact⟨0,by omega,rfl,Below.refl _ _,fun j x x' hj=>by omega⟩
   case round=>
    obtain⟨i,hi,rfl,hb,HE⟩:=hrel;have HB:=Lib.hid hb;have kq:=cellk hb KQ.out;have kq':=cellk hb KQ'.out;by_cases hlt:i<n
    ·obtain⟨b,off,rfl,hbw,hc⟩:=HC.out (by omega);obtain⟨b',off',rfl,hbw',hc'⟩:=HC'.out (by omega);obtain⟨e,hd⟩:∃e,d.2[i]?=some e:=⟨d.2[i]'(by rw[HL.out];exact hlt),List.getElem?_eq_getElem (by rw[HL.out];exact hlt)⟩
     obtain⟨e',hd'⟩:∃e,d'.2[i]?=some e:=⟨d'.2[i]'(by rw[HL'.out];exact hlt),List.getElem?_eq_getElem (by rw[HL'.out];exact hlt)⟩
     obtain⟨ea,em,ec,c0,c1,hdi,hints⟩:=atomAt (n:=n) hc i e hd;obtain⟨ea',em',ec',c0',c1',hdi',hints'⟩:=atomAt (n:=n) hc' i e' hd';have hww:=bnext HBW.out hb;have q1:=cell_regrown (w:=wr) kq;have q1':=cell_regrown (w:=wr) kq';have k0:=cell_regrown (w:=wr) (cellk hww c0);have k1:=cell_regrown (w:=wr) (cellk hww c1);have k0':=cell_regrown (w:=wr) (cellk hww c0');have k1':=cell_regrown (w:=wr) (cellk hww c1');have HD:=Lib.hid hd;have HD':=Lib.hid hd';have hi0:(0:Int)≤i:=by omega
     have hi1:(i:Int)<n:=by omega
     have hcall:=Lib.hid (fun dn os=>hz.out (grow (redrawn wr dn) os) e.1 e'.1 (.slice ea em ec) (.slice ea' em' ec') e.2 e'.2 (hints.below (hww.trans ((below_regrown wr dn os).mono hww.size))) (hints'.below (hww.trans ((below_regrown wr dn os).mono hww.size))));clear hc hc' hbw hbw' hb hd hd' hdi hdi' hints hints' c0 c1 c0' c1' hww;by_cases heq:e=e'
     ·have HQ:=Lib.hid heq;have e1:decide (e.1=e'.1∧e.2=e'.2)=true:=decide_eq_true ⟨by rw[heq],by rw[heq]⟩;rw[e1] at hcall;clear e1 heq;generalize e.1=r at *;generalize e'.1=r' at *;go_wp2_with fail
      refine wp_region_quiet_below (by kernel_rfl) (by kernel_rfl) ?_
      repeat (any_goals (first|go_big_quiet_step ((go_at_call 51;exact Calls.regrown_of (hcall.out _ _)))|quiet_step ((go_at_call 51;exact Calls.regrown_of (hcall.out _ _)))))
      refine wpQuiet_nil ?_;intro _ hw';obtain⟨⟨dq,osq⟩,hw''⟩:=hw';subst hw'';go_wp2_with fail
      refine⟨⟨i+1,by omega,by simp,bnext HB.out (below_regrown _ _ _),fun j x x' hj h5 h6=>?_⟩,by simp[intOf];omega⟩;rcases Nat.lt_or_ge j i with h7|h7
      ·exact HE.out j x x' h7 h5 h6
      ·obtain rfl:j=i:=by omega
       rw[HD.out] at h5;rw[HD'.out] at h6
       cases h5;cases h6;exact HQ.out
     ·have HQ:Hid (decide (d.2=d'.2)=false):=decide_eq_false (fun e=>heq (by rw[e] at HD;exact Option.some.inj (HD.out.symm.trans HD'.out)));have e1:decide (e.1=e'.1∧e.2=e'.2)=false:=decide_eq_false (fun e=>heq (Prod.ext e.1 e.2));rw[e1] at hcall;clear e1 heq;generalize e.1=r at *;generalize e'.1=r' at *;go_wp2_with fail
      refine wp_region_quiet_below (by kernel_rfl) (by kernel_rfl) ?_
      repeat (any_goals (first|go_big_quiet_step ((go_at_call 51;exact Calls.regrown_of (hcall.out _ _)))|quiet_step ((go_at_call 51;exact Calls.regrown_of (hcall.out _ _)))))
      refine wpQuiet_nil ?_;intro _ hw';obtain⟨⟨dq,osq⟩,hw''⟩:=hw';subst hw'';go_wp2_with fail
      go_ret;exact⟨ret_b HQ.out.symm,bnext HBW.out (bnext HB.out (below_regrown _ _ _))⟩
    ·obtain rfl:i=n:=by omega
     have HQ:Hid (decide (d.2=d'.2)=true):=decide_eq_true (getElem_eq_of (by rw[HL.out,HL'.out]) (fun j x x' h5 h6=>HE.out j x x' (by rw[←HL.out];exact (List.getElem?_eq_some_iff.1 h5).1) h5 h6));clear hb;go_wp2_with fail
     go_ret;exact⟨ret_b HQ.out.symm,bnext HBW.out HB.out⟩
  ·have HQ:Hid (decide (d=d')=false):=decide_eq_false (fun e=>hne (by rw[←hl,←hl',e]));have q:((n:Int) != n')=true:=by simp;omega
   clear h h' hcell hcell' hl hl' hne hi hi' hb0 hd1 HQ1;go_enter Tryz.func18,Tryz.ntmps18
   go_wp2_with fail
   refine (hI.out _ _).mono ?_;rintro e W ⟨rfl,hb⟩;have HBW:=Lib.hid (bnext (HB0.out _ _) hb);have kq:=cellk hb (b:=w.heap.size) (o:=1) (v:=.slice a n c) (by simp);have kq':=cellk hb (b:=w.heap.size+1) (o:=1) (v:=.slice a' n' c') (by simp);clear hb;go_wp2_with fail
   go_ret;exact⟨ret_b HQ.out.symm,HBW.out⟩
 ·have HQ:Hid (decide (d=d')=false):=decide_eq_false (fun e=>hd1 (by rw[e]));rw[decide_eq_false hd1] at hI;clear h h' hcell hcell' hl hl' hi hi' hb0 hd1;go_enter Tryz.func18,Tryz.ntmps18
  go_wp2_with fail
  refine (hI.out _ _).mono ?_;rintro e W ⟨rfl,hb⟩;have HBW:=Lib.hid (bnext (HB0.out _ _) hb);clear hb;go_wp2_with fail
  go_ret;exact⟨ret_b HQ.out.symm,HBW.out⟩
end Go.Proofs.YtpedpbbiamhgdaaGreatDoor
