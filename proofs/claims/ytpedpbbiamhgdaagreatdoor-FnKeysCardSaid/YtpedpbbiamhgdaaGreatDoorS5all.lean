import Derived.Test.YtpedpbbiamhgdaaGreatDoorSatom
import Derived.Test.YtpedpbbiamhgdaaGreatDoorAtomK
import Derived.Test.YtpedpbbiamhgdaaGreatDoorBase
import Derived.Deep.RegionLaw
import Derived.Test.YtpedpbbiamhgdaaGreatDoorSfact
namespace Go.Proofs.YtpedpbbiamhgdaaGreatDoor
open Go Go.Sort Go.RowKit
set_option linter.unusedVariables false
def valB (t:Int):Bool:=inB t 0 99
def isFactB (s:List Int) (r:Int) (l:List Int):Bool:=isSchemaB s&&inB r 0 (s.length-1)&&decide ((l.length:Int)=s.getD r.toNat 0)&&l.all valB
theorem fact_1 {s:List Int} {r:Int} {l:List Int} (h:isSchemaB s=false):isFactB s r l=false:=by unfold isFactB;rw[h];rfl
theorem fact_2 {s:List Int} {r:Int} {l:List Int} (h:inB r 0 ((s.length:Int)-1)=false):isFactB s r l=false:=by unfold isFactB;rw[h,Bool.and_false,Bool.false_and,Bool.false_and]
theorem fact_3 {s:List Int} {k:Nat} {l:List Int} (h:(l.length:Int)≠s.getD k 0):isFactB s k l=false:=by
 unfold isFactB;rw[Int.toNat_natCast,decide_eq_false h,Bool.and_false,Bool.false_and]
theorem fact_4 {s:List Int} {k:Nat} {l:List Int} (h1:isSchemaB s=true) (h2:inB k 0 ((s.length:Int)-1)=true) (h:(l.length:Int)=s.getD k 0):isFactB s k l=l.all valB:=by
 unfold isFactB;rw[h1,h2,Int.toNat_natCast,decide_eq_true h];simp
set_option maxHeartbeats 4000000 in
theorem sIsFact_any (w:World) (r:Int) (vs v:Value) (s l:List Int) (hs:Ints w vs s) (h:Ints w v l) :
  Calls Tryz.prog 151 #[.agg #[vs],.agg #[.int .i64 r,v]] w (GaveBool w (isFactB s r l)):=by
 obtain⟨a,n,cap,rfl,hl,hn,hm,hcell⟩:=hs.cases;obtain⟨a',n',cap',rfl,hl',hn',hm',hcell'⟩:=h.cases;unfold maxLen at hm hm';have hb0:∀a b,Below w.heap.size w ((w.alloc a).alloc b):=fun a b=>((Below.refl _ _).alloc (Nat.le_refl _) _).alloc (by simp) _
 have hS:=Lib.hid (fun w h=>sIsSchema_any w (.slice a n cap) s h);have HS:=Lib.hid hs;have HB0:=Lib.hid hb0;have HC':=Lib.hid hcell';have HL':=Lib.hid hl';have HIN:=Lib.hid (fun t w=>l1In_any t 0 99 w);have HI:=Lib.hid h.1
 cases h1:isSchemaB s with
 |false=>
  have HQ:=Lib.hid (fact_1 (r:=r) (l:=l) h1);rw[h1] at hS;clear hs h hcell hcell' hl hl' hb0 h1;go_enter Tryz.func151,Tryz.ntmps151
  go_wp2_with fail
  obtain⟨W,hW⟩:∃W,W=((w.alloc (.cells #[.slice a n cap] 26)).alloc (.cells #[.int .i64 r,.slice a' n' cap'] 127)):=⟨_,rfl⟩
  have k0:=cell_regrown (w:=W) (a:=⟨w.heap.size,0,none⟩) (v:=.slice a n cap) (by rw[hW];simp);have k1:=cell_regrown (w:=W) (a:=⟨w.heap.size+1,0,none⟩) (v:=.int .i64 r) (by rw[hW];simp);have k2:=cell_regrown (w:=W) (a:=⟨w.heap.size+1,1,none⟩) (v:=.slice a' n' cap') (by rw[hW];simp);have KF1:Hid (W.cell? ⟨w.heap.size+1,1,none⟩=some (.slice a' n' cap')):=by rw[hW];unfold Hid;simp
  have HBW:Hid (Below w.heap.size w W):=by rw[hW];exact HB0.out _ _
  rw[←hW];have HSW:=Lib.hid (fun d os=>HS.out.below (HBW.out.trans ((below_regrown W d os).mono HBW.out.size)));clear hW;refine wp_region_quiet_below (by kernel_rfl) (by kernel_rfl) ?_
  repeat (any_goals (first|go_big_quiet_step ((go_at_call 45;exact Calls.regrown_of (hS.out _ (HSW.out _ _))))|quiet_step ((go_at_call 45;exact Calls.regrown_of (hS.out _ (HSW.out _ _))))))
  refine wpQuiet_nil ?_;intro _ hw';obtain⟨⟨dq,osq⟩,hw''⟩:=hw';subst hw'';go_wp2_with fail
  go_ret;exact⟨ret_b HQ.out.symm,bnext HBW.out (below_regrown _ _ _)⟩
 |true=>
  rw[h1] at hS
  have hn0:1≤n:=by
   unfold isSchemaB at h1;rw[Bool.and_eq_true] at h1;have:=of_decide_eq_true h1.2;omega
  have hI:=Lib.hid (fun w=>l1In_any r 0 (n-1) w)
  cases h2:inB r 0 (n-1) with
  |false=>
   have HQ:=Lib.hid (fact_2 (s:=s) (r:=r) (l:=l) (by rw[hl];exact h2));rw[h2] at hI;clear hs h hcell hcell' hl hl' hb0 h1 h2;go_enter Tryz.func151,Tryz.ntmps151
   go_wp2_with fail
   obtain⟨W,hW⟩:∃W,W=((w.alloc (.cells #[.slice a n cap] 26)).alloc (.cells #[.int .i64 r,.slice a' n' cap'] 127)):=⟨_,rfl⟩
   have k0:=cell_regrown (w:=W) (a:=⟨w.heap.size,0,none⟩) (v:=.slice a n cap) (by rw[hW];simp);have k1:=cell_regrown (w:=W) (a:=⟨w.heap.size+1,0,none⟩) (v:=.int .i64 r) (by rw[hW];simp);have k2:=cell_regrown (w:=W) (a:=⟨w.heap.size+1,1,none⟩) (v:=.slice a' n' cap') (by rw[hW];simp);have KF1:Hid (W.cell? ⟨w.heap.size+1,1,none⟩=some (.slice a' n' cap')):=by rw[hW];unfold Hid;simp
   have HBW:Hid (Below w.heap.size w W):=by rw[hW];exact HB0.out _ _
   rw[←hW];have HSW:=Lib.hid (fun d os=>HS.out.below (HBW.out.trans ((below_regrown W d os).mono HBW.out.size)));clear hW;refine wp_region_quiet_below (by kernel_rfl) (by kernel_rfl) ?_
   repeat (any_goals (first|go_big_quiet_step ((first|(go_at_call 45;exact Calls.regrown_of (hS.out _ (HSW.out _ _)))|(go_at_call 98;exact Calls.regrown_of ((hI.out _).mono fun e w' ⟨he,hw⟩=>⟨he,by rw[hw];exact Below.refl _ _⟩))))|quiet_step ((first|(go_at_call 45;exact Calls.regrown_of (hS.out _ (HSW.out _ _)))|(go_at_call 98;exact Calls.regrown_of ((hI.out _).mono fun e w' ⟨he,hw⟩=>⟨he,by rw[hw];exact Below.refl _ _⟩))))))
   refine wpQuiet_nil ?_;intro _ hw';obtain⟨⟨dq,osq⟩,hw''⟩:=hw';subst hw'';go_wp2_with fail
   go_ret;exact⟨ret_b HQ.out.symm,bnext HBW.out (below_regrown _ _ _)⟩
  |true=>
   have h3:0≤r∧r≤n-1:=of_decide_eq_true h2;rw[h2] at hI;obtain⟨k,rfl⟩:=Int.eq_ofNat_of_zero_le h3.1;have hk:k<n:=by omega
   have hk0:(0:Int)≤k:=by omega
   have hk1:(k:Int)<n:=by omega
   obtain⟨b,off,rfl,hbw,hc⟩:=hcell (by omega);have c1:=Lib.hid (hc k hk);by_cases h4:(l.length:Int)=s.getD k 0
   ·have HQ4:=Lib.hid (fact_4 h1 (by rw[hl];exact h2) h4);rw[←h4,hl'] at c1;have q:((n':Int) != n')=false:=by simp
    have HT:=Lib.hid h;clear hs h hcell hcell' hl hl' hb0 h1 h2 hc hbw h4 h3;go_enter Tryz.func151,Tryz.ntmps151
    go_wp2_with fail
    obtain⟨W,hW⟩:∃W,W=((w.alloc (.cells #[.slice (some ⟨b,off,none⟩) n cap] 26)).alloc (.cells #[.int .i64 k,.slice a' n' cap'] 127)):=⟨_,rfl⟩
    have k0:=cell_regrown (w:=W) (a:=⟨w.heap.size,0,none⟩) (v:=.slice (some ⟨b,off,none⟩) n cap) (by rw[hW];simp);have k1:=cell_regrown (w:=W) (a:=⟨w.heap.size+1,0,none⟩) (v:=.int .i64 k) (by rw[hW];simp);have k2:=cell_regrown (w:=W) (a:=⟨w.heap.size+1,1,none⟩) (v:=.slice a' n' cap') (by rw[hW];simp);have k3:=cell_regrown (w:=W) (a:=⟨b,off+k,none⟩) (by rw[hW];exact cellk (HB0.out _ _) c1.out);have KF1:Hid (W.cell? ⟨w.heap.size+1,1,none⟩=some (.slice a' n' cap')):=by rw[hW];unfold Hid;simp
    have HBW:Hid (Below w.heap.size w W):=by rw[hW];exact HB0.out _ _
    rw[←hW];have HSW:=Lib.hid (fun d os=>HS.out.below (HBW.out.trans ((below_regrown W d os).mono HBW.out.size)));clear hW;refine wp_region_quiet_below (by kernel_rfl) (by kernel_rfl) ?_
    repeat (any_goals (first|go_big_quiet_step ((first|(go_at_call 45;exact Calls.regrown_of (hS.out _ (HSW.out _ _)))|(go_at_call 98;exact Calls.regrown_of ((hI.out _).mono fun e w' ⟨he,hw⟩=>⟨he,by rw[hw];exact Below.refl _ _⟩))))|quiet_step ((first|(go_at_call 45;exact Calls.regrown_of (hS.out _ (HSW.out _ _)))|(go_at_call 98;exact Calls.regrown_of ((hI.out _).mono fun e w' ⟨he,hw⟩=>⟨he,by rw[hw];exact Below.refl _ _⟩))))))
    refine wpQuiet_nil ?_;intro _ hw';obtain⟨⟨dq,osq⟩,hw''⟩:=hw';subst hw'';go_wp2_with fail
    have KF2:=Lib.hid (cell_regrown (d:=dq) (os:=osq) KF1.out);clear k0 k1 k2 k3
    go_loopw [5] (fun iv wr=>∃i:Nat,i≤n'∧iv=.int .i64 i∧Below (grow (redrawn W dq) osq).heap.size (grow (redrawn W dq) osq) wr∧Hid (∀j,j<i→valB (l.getD j 0)=true)) (fun iv _=>n'-(intOf iv).toNat)
    case atStart=>exact⟨0,by omega,rfl,Below.refl _ _,fun j hj=>by omega⟩
    case round=>
     obtain⟨i,hi,rfl,hb,HE⟩:=hrel;have HB:=Lib.hid (bnext HBW.out (bnext (below_regrown W dq osq) hb));have HBL:=Lib.hid hb;have kf:=cellk hb KF2.out;by_cases hlt:i<n'
     ·obtain⟨b',off',rfl,hbw',hc'⟩:=HC'.out (by omega);have c2:=cellk HB.out (hc' i hlt);clear hc' hbw' hb;have hi0:(0:Int)≤i:=by omega
      have hi1:(i:Int)<n':=by omega
      cases hx:valB (l.getD i 0) with
      |true=>
       have HX:=Lib.hid (fun j (e:j=i)=>(by rw[e];exact hx:valB (l.getD j 0)=true));have hc:=Lib.hid (HIN.out (l.getD i 0));unfold valB at hx;rw[hx] at hc;clear hx;generalize l.getD i 0=x at *;go_wp2_with fail
       refine (hc.out _).mono ?_;rintro e w1 ⟨rfl,rfl⟩;go_wp2_with fail
       refine⟨⟨i+1,by omega,by simp,HBL.out,fun j hj=>?_⟩,by simp[intOf];omega⟩;rcases Nat.lt_or_ge j i with h|h
       ·exact HE.out j h
       ·exact HX.out j (by omega)
      |false=>
       have HX:=Lib.hid (all_no i (by rw[HL'.out];exact hlt) hx);have hc:=Lib.hid (HIN.out (l.getD i 0));unfold valB at hx;rw[hx] at hc;clear hx;generalize l.getD i 0=x at *;go_wp2_with fail
       refine (hc.out _).mono ?_;rintro e w1 ⟨rfl,rfl⟩;go_wp2_with fail
       go_ret;exact⟨ret_b (HQ4.out.trans HX.out).symm,HB.out⟩
     ·obtain rfl:i=n':=by omega
      have HX:=Lib.hid (all_yes (l:=l) (p:=valB) (fun j hj=>HE.out j (by rw[←HL'.out];exact hj)));clear hb;go_wp2_with fail
      go_ret;exact⟨ret_b (HQ4.out.trans HX.out).symm,HB.out⟩
   ·have HQ:=Lib.hid (fact_3 (s:=s) (k:=k) (l:=l) h4);have q:((n':Int) != s.getD k 0)=true:=by rw[←hl'];exact bne_iff_ne.2 h4
    generalize s.getD k 0=x at *;clear hs h hcell hcell' hl hl' hb0 h1 h2 hc hbw h4 h3;go_enter Tryz.func151,Tryz.ntmps151
    go_wp2_with fail
    obtain⟨W,hW⟩:∃W,W=((w.alloc (.cells #[.slice (some ⟨b,off,none⟩) n cap] 26)).alloc (.cells #[.int .i64 k,.slice a' n' cap'] 127)):=⟨_,rfl⟩
    have k0:=cell_regrown (w:=W) (a:=⟨w.heap.size,0,none⟩) (v:=.slice (some ⟨b,off,none⟩) n cap) (by rw[hW];simp);have k1:=cell_regrown (w:=W) (a:=⟨w.heap.size+1,0,none⟩) (v:=.int .i64 k) (by rw[hW];simp);have k2:=cell_regrown (w:=W) (a:=⟨w.heap.size+1,1,none⟩) (v:=.slice a' n' cap') (by rw[hW];simp);have k3:=cell_regrown (w:=W) (a:=⟨b,off+k,none⟩) (by rw[hW];exact cellk (HB0.out _ _) c1.out);have KF1:Hid (W.cell? ⟨w.heap.size+1,1,none⟩=some (.slice a' n' cap')):=by rw[hW];unfold Hid;simp
    have HBW:Hid (Below w.heap.size w W):=by rw[hW];exact HB0.out _ _
    rw[←hW];have HSW:=Lib.hid (fun d os=>HS.out.below (HBW.out.trans ((below_regrown W d os).mono HBW.out.size)));clear hW;refine wp_region_quiet_below (by kernel_rfl) (by kernel_rfl) ?_
    repeat (any_goals (first|go_big_quiet_step ((first|(go_at_call 45;exact Calls.regrown_of (hS.out _ (HSW.out _ _)))|(go_at_call 98;exact Calls.regrown_of ((hI.out _).mono fun e w' ⟨he,hw⟩=>⟨he,by rw[hw];exact Below.refl _ _⟩))))|quiet_step ((first|(go_at_call 45;exact Calls.regrown_of (hS.out _ (HSW.out _ _)))|(go_at_call 98;exact Calls.regrown_of ((hI.out _).mono fun e w' ⟨he,hw⟩=>⟨he,by rw[hw];exact Below.refl _ _⟩))))))
    refine wpQuiet_nil ?_;intro _ hw';obtain⟨⟨dq,osq⟩,hw''⟩:=hw';subst hw'';go_wp2_with fail
    go_ret;exact⟨ret_b HQ.out.symm,bnext HBW.out (below_regrown _ _ _)⟩
set_option maxHeartbeats 1000000 in
theorem sLess5_any (w:World) (r r':Int) (v v':Value) (l l':List Int) (h:Ints w v l) (h':Ints w v' l') :
  Calls Tryz.prog 152 #[.agg #[.int .i64 r,v],.agg #[.int .i64 r',v']] w (GaveBool w (lessAtomB r l r' l')):=by
 have hb0:∀a b,Below w.heap.size w ((w.alloc a).alloc b):=fun a b=>((Below.refl _ _).alloc (Nat.le_refl _) _).alloc (by simp) _
 have HB0:=Lib.hid hb0;by_cases hr:r=r'
 ·have hE:=Lib.hid (fun a b=>sLess_any _ v v' l l' (h.below (hb0 a b)) (h'.below (hb0 a b)));have hq:lessAtomB r l r' l'=lessB l l':=by unfold lessAtomB;rw[if_pos hr]
  rw[hq];subst hr;clear hq h h' hb0;generalize lessB l l'=d at *;go_enter Tryz.func152,Tryz.ntmps152
  go_wp2_with fail
  refine (hE.out _ _).mono ?_;rintro e w1 ⟨rfl,hb⟩;have HB:=Lib.hid (bnext (HB0.out _ _) hb);clear hb;go_wp2_with fail
  go_ret;exact⟨rfl,HB.out⟩
 ·have HQ:Hid (lessAtomB r l r' l'=decide (r<r')):=by unfold Hid lessAtomB;rw[if_neg hr]
  have q:(r != r')=true:=bne_iff_ne.2 hr;clear hr h h' hb0
  cases hd:decide (r<r')
  all_goals
   rw[hd] at HQ;go_enter Tryz.func152,Tryz.ntmps152
   go_wp2_with fail
   go_ret;exact⟨ret_b HQ.out.symm,HB0.out _ _⟩
set_option maxHeartbeats 1000000 in
theorem sSame5_any (w:World) (r r':Int) (v v':Value) (l l':List Int) (h:Ints w v l) (h':Ints w v' l') :
  Calls Tryz.prog 178 #[.agg #[.int .i64 r,v],.agg #[.int .i64 r',v']] w (GaveBool w (decide (r=r'∧l=l'))):=by
 have hb0:∀a b,Below w.heap.size w ((w.alloc a).alloc b):=fun a b=>((Below.refl _ _).alloc (Nat.le_refl _) _).alloc (by simp) _
 have HB0:=Lib.hid hb0;by_cases hr:r=r'
 ·have hE:=Lib.hid (fun a b=>sInts_any _ v v' l l' (h.below (hb0 a b)) (h'.below (hb0 a b)));have hq:decide (r=r'∧l=l')=decide (l=l'):=by simp[hr]
  rw[hq];subst hr;clear hq h h' hb0;generalize decide (l=l')=d at *;go_enter Tryz.func178,Tryz.ntmps178
  go_wp2_with fail
  refine (hE.out _ _).mono ?_;rintro e w1 ⟨rfl,hb⟩;have HB:=Lib.hid (bnext (HB0.out _ _) hb);clear hb;go_wp2_with fail
  go_ret;exact⟨rfl,HB.out⟩
 ·have HQ:Hid (decide (r=r'∧l=l')=false):=decide_eq_false (fun h=>hr h.1);have q:(r==r')=false:=beq_eq_false_iff_ne.2 hr;clear hr h h' hb0;go_enter Tryz.func178,Tryz.ntmps178
  go_wp2_with fail
  go_ret;exact⟨ret_b HQ.out.symm,HB0.out _ _⟩
theorem atom_ext {x y:AtomD}:decide (x.1=y.1∧x.2=y.2)=decide (x=y):=by
 by_cases h:x=y
 ·rw[decide_eq_true h,decide_eq_true ⟨by rw[h],by rw[h]⟩]
 ·rw[decide_eq_false h,decide_eq_false (fun e=>h (Prod.ext e.1 e.2))]
def zF:AtomD:=(0,[])
def lessF (x y:AtomD):Bool:=lessAtomB x.1 x.2 y.1 y.2
def okAt (s:List Int) (l:List AtomD) (i:Nat):Bool:=isFactB s (l.getD i zF).1 (l.getD i zF).2&&(decide (i=0)||lessF (l.getD (i-1) zF) (l.getD i zF))
def isDbB (s:List Int) (l:List AtomD):Bool:=(List.range l.length).all (okAt s l)&&(isSchemaB s&&decide (l.length≤24))
theorem getF_at {l:List AtomD} {i:Nat} {e:AtomD} (h:l[i]?=some e):l.getD i zF=e:=by simp[List.getD,h]
theorem db_no {s:List Int} {l:List AtomD} {i:Nat} (hi:i<l.length) (h:okAt s l i=false):isDbB s l=false:=by
 unfold isDbB
 have:(List.range l.length).all (okAt s l)=false:=by
  rw[Bool.eq_false_iff];intro hc;rw[List.all_eq_true.1 hc i (List.mem_range.2 hi)] at h
  cases h
 rw[this];rfl
theorem db_yes {s:List Int} {l:List AtomD} (h:∀i,i<l.length→okAt s l i=true):isDbB s l=(isSchemaB s&&decide (l.length≤24)):=by
 unfold isDbB;have:(List.range l.length).all (okAt s l)=true:=List.all_eq_true.2 (fun i hi=>h i (List.mem_range.1 hi));rw[this];rfl
set_option maxRecDepth 100000 in
set_option maxHeartbeats 8000000 in
theorem sIsDb_any (w:World) (vs v:Value) (s:List Int) (l:List AtomD) (hvs:RdSchema w vs s) (h:RdAtomS w v l) :
  Calls Tryz.prog 110 #[vs,v] w (GaveBool w (isDbB s l)):=by
 obtain⟨sa,sn,sc,rfl,hs⟩:=hvs;obtain⟨a,n,c,rfl,h⟩:=h;obtain⟨hl,hn,hm,hcell⟩:=h.at
 unfold maxLen at hm;have hb0:∀a,Below w.heap.size w (w.alloc a):=fun a=>(Below.refl _ _).alloc (Nat.le_refl _) _
 have HB0:=Lib.hid hb0;have HC:=Lib.hid hcell;have HL:=Lib.hid hl;have HS:=Lib.hid hs;have hF:=Lib.hid (fun w r v l hs h=>sIsFact_any w r (.slice sa sn sc) v s l hs h);have hz:=Lib.hid (fun w r r' v v' l l' a b=>sLess5_any w r r' v v' l l' a b);have hS:=Lib.hid (fun w h=>sIsSchema_any w (.slice sa sn sc) s h);clear hs h hcell hl hb0;go_enter Tryz.func110,Tryz.ntmps110
 go_wp2_with fail
 obtain⟨W,hW⟩:∃W,W=w.alloc (.cells #[.slice sa sn sc] 26):=⟨_,rfl⟩
 have KS:Hid (W.cell? ⟨w.heap.size,0,none⟩=some (.slice sa sn sc)):=by rw[hW];unfold Hid;simp
 have HBW:Hid (Below w.heap.size w W):=by rw[hW];exact HB0.out _
 rw[←hW];clear hW
 go_loopw [5] (fun iv wr=>∃i:Nat,i≤n∧iv=.int .i64 i∧Below W.heap.size W wr∧Hid (∀j,j<i→okAt s l j=true)) (fun iv _=>n-(intOf iv).toNat)
 case atStart=>exact⟨0,by omega,rfl,Below.refl _ _,fun j hj=>by omega⟩
 case round=>
  obtain⟨i,hi,rfl,hb,HE⟩:=hrel;have HB:=Lib.hid hb;have hww:=bnext HBW.out hb;have ks:=cell_regrown (w:=wr) (cellk hb KS.out);by_cases hlt:i<n
  ·obtain⟨b,off,rfl,hbw,hc⟩:=HC.out (by omega);have hil:i<l.length:=by rw[HL.out];exact hlt
   obtain⟨e,hd⟩:∃e,l[i]?=some e:=⟨l[i]'hil,List.getElem?_eq_getElem hil⟩
   obtain⟨ea,em,ec,c0,c1,hdi,hints⟩:=atomAt (n:=n) hc i e hd;have k0:=cell_regrown (w:=wr) (cellk hww c0);have k1:=cell_regrown (w:=wr) (cellk hww c1);have hi0:(0:Int)≤i:=by omega
   have hi1:(i:Int)<n:=by omega
   have hcall:=Lib.hid (fun dn os=>hF.out (grow (redrawn wr dn) os) e.1 (.slice ea em ec) e.2 (HS.out.below (hww.trans ((below_regrown wr dn os).mono hww.size))) (hints.below (hww.trans ((below_regrown wr dn os).mono hww.size))));have HNO:Hid (okAt s l i=false→isDbB s l=false):=fun h=>db_no hil h
   have HYES:Hid (okAt s l i=true→∀j,j<i+1→okAt s l j=true):=fun h j hj=>by
    rcases Nat.lt_or_ge j i with h7|h7
    ·exact HE.out j h7
    ·obtain rfl:j=i:=by omega
     exact h
   have HAT:Hid (okAt s l i=(isFactB s e.1 e.2&&(decide (i=0)||lessF (l.getD (i-1) zF) e))):=by unfold Hid okAt;rw[getF_at hd]
   cases hfa:isFactB s e.1 e.2 with
   |false=>
    have HQ:=Lib.hid (HNO.out (by rw[HAT.out,hfa];rfl));rw[hfa] at hcall;clear hc hbw hb hd hdi hints c0 c1 hww hfa HNO HYES HAT hil;generalize e.1=r at *;go_wp2_with fail
    refine wp_region_quiet_below (by kernel_rfl) (by kernel_rfl) ?_
    repeat (any_goals (first|go_big_quiet_step ((go_at_call 151;exact Calls.regrown_of (hcall.out _ _)))|quiet_step ((go_at_call 151;exact Calls.regrown_of (hcall.out _ _)))))
    refine wpQuiet_nil ?_;intro _ hw';obtain⟨⟨dq,osq⟩,hw''⟩:=hw';subst hw'';go_wp2_with fail
    go_ret;exact⟨ret_b HQ.out.symm,bnext HBW.out (bnext HB.out (below_regrown _ _ _))⟩
   |true=>
    rw[hfa] at hcall
    cases i with
    |zero=>
     have HQ:=Lib.hid (HYES.out (by rw[HAT.out,hfa];rfl));simp only[Nat.zero_mul,Nat.add_zero] at k0 k1;clear hc hbw hb hd hdi hints c0 c1 hww hfa HNO HYES HAT hil;generalize e.1=r at *;go_wp2_with fail
     refine wp_region_quiet_below (by kernel_rfl) (by kernel_rfl) ?_
     repeat (any_goals (first|go_big_quiet_step ((go_at_call 151;exact Calls.regrown_of (hcall.out _ _)))|quiet_step ((go_at_call 151;exact Calls.regrown_of (hcall.out _ _)))))
     refine wpQuiet_nil ?_;intro _ hw';obtain⟨⟨dq,osq⟩,hw''⟩:=hw';subst hw'';go_wp2_with fail
     exact⟨⟨1,by omega,by simp,bnext HB.out (below_regrown _ _ _),HQ.out⟩,by simp[intOf];omega⟩
    |succ k=>
     obtain⟨e',hd'⟩:∃e,l[k]?=some e:=⟨l[k]'(by omega),List.getElem?_eq_getElem (by omega)⟩
     obtain⟨ea',em',ec',c0',c1',hdi',hints'⟩:=atomAt (n:=n) hc k e' hd';have k0':=cell_regrown (w:=wr) (cellk hww c0');have k1':=cell_regrown (w:=wr) (cellk hww c1');have hk1:(((k+1:Nat)):Int)-1=k:=by omega
     have hk0:(0:Int)≤k:=by omega
     have hk2:(k:Int)<n:=by omega
     have hk3:(0:Int)<((k+1:Nat):Int):=by omega
     have hcall2:=Lib.hid (fun dn os=>hz.out (grow (redrawn wr dn) os) e'.1 e.1 (.slice ea' em' ec') (.slice ea em ec) e'.2 e.2 (hints'.below (hww.trans ((below_regrown wr dn os).mono hww.size))) (hints.below (hww.trans ((below_regrown wr dn os).mono hww.size))))
     have HAT2:Hid (okAt s l (k+1)=lessAtomB e'.1 e'.2 e.1 e.2):=by
      unfold Hid;rw[HAT.out,hfa,show k+1-1=k from rfl,getF_at hd'];rfl
     cases hle:lessAtomB e'.1 e'.2 e.1 e.2 with
     |false=>
      have HQ:=Lib.hid (HNO.out (by rw[HAT2.out,hle]));rw[hle] at hcall2;clear hc hbw hb hd hdi hints c0 c1 hww hfa HNO HYES HAT hil hd' hdi' hints' c0' c1' HAT2 hle;generalize e.1=r at *;generalize e'.1=r' at *;go_wp2_with fail
      refine wp_region_quiet_below (by kernel_rfl) (by kernel_rfl) ?_
      repeat (any_goals (first|go_big_quiet_step ((first|(go_at_call 151;exact Calls.regrown_of (hcall.out _ _))|(go_at_call 152;exact Calls.regrown_of (hcall2.out _ _))))|quiet_step ((first|(go_at_call 151;exact Calls.regrown_of (hcall.out _ _))|(go_at_call 152;exact Calls.regrown_of (hcall2.out _ _))))))
      refine wpQuiet_nil ?_;intro _ hw';obtain⟨⟨dq,osq⟩,hw''⟩:=hw';subst hw'';go_wp2_with fail
      go_ret;exact⟨ret_b HQ.out.symm,bnext HBW.out (bnext HB.out (below_regrown _ _ _))⟩
     |true=>
      have HQ:=Lib.hid (HYES.out (by rw[HAT2.out,hle]));rw[hle] at hcall2;clear hc hbw hb hd hdi hints c0 c1 hww hfa HNO HYES HAT hil hd' hdi' hints' c0' c1' HAT2 hle;generalize e.1=r at *;generalize e'.1=r' at *;go_wp2_with fail
      refine wp_region_quiet_below (by kernel_rfl) (by kernel_rfl) ?_
      repeat (any_goals (first|go_big_quiet_step ((first|(go_at_call 151;exact Calls.regrown_of (hcall.out _ _))|(go_at_call 152;exact Calls.regrown_of (hcall2.out _ _))))|quiet_step ((first|(go_at_call 151;exact Calls.regrown_of (hcall.out _ _))|(go_at_call 152;exact Calls.regrown_of (hcall2.out _ _))))))
      refine wpQuiet_nil ?_;intro _ hw';obtain⟨⟨dq,osq⟩,hw''⟩:=hw';subst hw'';go_wp2_with fail
      exact⟨⟨k+1+1,by omega,by simp,bnext HB.out (below_regrown _ _ _),HQ.out⟩,by simp[intOf];omega⟩
  ·obtain rfl:i=n:=by omega
   have HQ:=Lib.hid (db_yes (s:=s) (l:=l) (fun j hj=>HE.out j (by rw[←HL.out];exact hj)));have HSW:=Lib.hid (HS.out.below hww);have ks2:=cellk hb KS.out;have HWW:=Lib.hid hww;have hcS:=Lib.hid (hS.out wr HSW.out);have HLN:Hid (decide (l.length≤24)=decide (i≤24)):=by unfold Hid;rw[HL.out]
   clear hb hww ks
   cases hsb:isSchemaB s with
   |false=>
    rw[hsb] at hcS;have HQ2:Hid (isDbB s l=false):=by unfold Hid;rw[HQ.out,hsb];rfl
    clear hsb;go_wp2_with fail
    refine hcS.out.mono ?_;rintro e w1 ⟨rfl,hb⟩;have HB1:=Lib.hid (bnext HWW.out hb);clear hb ks2;go_wp2_with fail
    go_ret;exact⟨ret_b HQ2.out.symm,HB1.out⟩
   |true=>
    rw[hsb] at hcS;have HQ2:Hid (isDbB s l=decide (i≤24)):=by unfold Hid;rw[HQ.out,hsb,HLN.out];rfl
    clear hsb
    have hq:decide ((i:Int)≤24)=decide (i≤24):=by
     by_cases h:i≤24
     ·rw[decide_eq_true h,decide_eq_true (by omega)]
     ·rw[decide_eq_false h,decide_eq_false (by omega)]
    go_wp2_with fail
    refine hcS.out.mono ?_;rintro e w1 ⟨rfl,hb⟩;have HB1:=Lib.hid (bnext HWW.out hb);clear hb ks2;go_wp2_with fail
    go_ret;exact⟨by rw[HQ2.out,←hq];rfl,HB1.out⟩
set_option maxRecDepth 100000 in
set_option maxHeartbeats 4000000 in
theorem sCopy5_any (w:World) (v:Value) (f:AtomD) (h:RdAtom w v f) (hz:f.2.length≤1048576) :
  Calls Tryz.prog 179 #[v] w (GaveO (fun w' v' bs=>ROAtom w' v' f bs) w):=by
 obtain⟨r,l⟩:=f;obtain⟨a,n,c,rfl,hi,h⟩:=h
 change l.length≤1048576 at hz
 change inI r at hi
 change Ints w (.slice a n c) l at h
 change Calls _ _ #[.agg #[.int .i64 r,.slice a n c]] _ _
 have hb0:∀o p,Below w.heap.size w ((w.alloc o).alloc p):=fun o p=>((Below.refl _ _).alloc (Nat.le_refl _) _).alloc (by simp) _
 have HB0:=Lib.hid hb0;have HI:=Lib.hid h;have HFI:=Lib.hid hi;have HZ:=Lib.hid hz;clear h hi hb0 hz;go_enter Tryz.func179,Tryz.ntmps179
 go_wp2_with fail
 obtain⟨W,hW⟩:∃W,W=(w.alloc (.cells #[.int .i64 r,.slice a n c] 127)).alloc (.cells #[.int .i64 0,.slice none 0 0] 127):=⟨_,rfl⟩
 have hbW:Below w.heap.size w W:=by rw[hW];exact HB0.out _ _
 have k0:W.cell? ⟨w.heap.size,0,none⟩=some (.int .i64 r):=by rw[hW];simp
 have k1:W.cell? ⟨w.heap.size,1,none⟩=some (.slice a n c):=by rw[hW];simp
 have x0:W.cell? ⟨w.heap.size+1,0,none⟩=some (.int .i64 0):=by rw[hW];simp
 have x1:W.cell? ⟨w.heap.size+1,1,none⟩=some (.slice none 0 0):=by rw[hW];simp
 have y0:W.frozen? ⟨w.heap.size+1,0,none⟩=false:=by rw[hW];simp
 have y1:W.frozen? ⟨w.heap.size+1,1,none⟩=false:=by rw[hW];simp
 have hWs:W.heap.size=w.heap.size+2:=by rw[hW];simp
 rw[←hW];clear hW;have HBW:=Lib.hid hbW;have HWS:=Lib.hid hWs;have hal:Below W.heap.size W (W.alloc (.cells #[] 3)):=(Below.refl W.heap.size W).alloc (by simp) _;have kA0:=cellk hal k0;have kA1:=cellk hal k1;have HAL:=Lib.hid hal
 have hlit:Built .i64 3 W (W.alloc (.cells #[] 3)) (.slice (some ⟨W.heap.size,0,none⟩) 0 0) []:=by
  have:=Built.lit .i64 3 W W [] (Nat.zero_le _) (Below.refl _ _);simpa using this
 have HLIT:=Lib.hid hlit.drew;have HIA:=Lib.hid (HI.out.below (bnext hbW hal.drew));clear hlit;clear hal hbW hWs
 go_region_law (first
  |(refine step_appInts (by rfl) (.tmp 5) (.tmp 7) 24 (by rfl) 3 Tryz.underlying24 info_i64 _ [] (by rfl) HLIT.out _ l (by rfl) HIA.out (by have:=HZ.out;simp;omega) ?_;intro v' w3 hown;obtain⟨va,vn,vc,rfl⟩:=(Ints.ofBuilt hown (by simpa using HI.out.1)).shape;have HOW:=Lib.hid hown;have hbl:=hown.below;have q0:=cellk hbl k0;have q1:=cellk hbl k1;have z0:=cellk hbl x0;have z1:=cellk hbl x1;have f0:=frok hbl x0 y0;have f1:=frok hbl x1 y1;have HBL:=Lib.hid hbl;clear hown hbl))
 all_goals (go_wp2_with fail)
 all_goals
  obtain⟨bs,ho,hnd,hfr⟩:=OInts.ofBuilt HOW.out (by simpa using HI.out.1);have hk:OnlyAt [w.heap.size+1] w3 ((w3.setCell ⟨w.heap.size+1,0,none⟩ (.int .i64 r)).setCell ⟨w.heap.size+1,1,none⟩ (.slice va vn vc)):=(OnlyAt.setCell _ _ _ _).same (OnlyAt.setCell _ _ _ _);have hs:((w3.setCell ⟨w.heap.size+1,0,none⟩ (.int .i64 r)).setCell ⟨w.heap.size+1,1,none⟩ (.slice va vn vc)).heap.size=w3.heap.size:=by simp[World.setCell]
  have hWS:=HWS.out;exact bodyPost_ret (v:=.agg #[.int .i64 r,.slice va vn vc]) (by simp[results,Tryz.results179,go_sem,z0,z1]) rfl ⟨_,bs,rfl,⟨va,vn,vc,rfl,HFI.out,ho.onlyAt hk (fun b hb hm=>by simp at hm;have:=(hfr b hb).1;omega)⟩,⟨hnd,fun b hb=>⟨by have:=(hfr b hb).1;omega,by rw[hs];exact (hfr b hb).2⟩⟩,OnlyAt.below (bnext HBW.out HBL.out) hk (fun x hx=>by simp at hx;omega)⟩
def putStep (f:AtomD) (q:List AtomD × Bool) (e:AtomD):List AtomD × Bool:=
 if !q.2 && !lessF e f then ((if e=f then q.1 else q.1++[f])++[e],true) else (q.1++[e],q.2)
def putTo (l:List AtomD) (f:AtomD) (i:Nat):List AtomD × Bool:=(l.take i).foldl (putStep f) ([],false)
def putF (l:List AtomD) (f:AtomD):List AtomD:=if (putTo l f l.length).2 then (putTo l f l.length).1 else (putTo l f l.length).1++[f]
theorem putTo_next {l:List AtomD} {f:AtomD} {i:Nat} {e:AtomD} (h:l[i]?=some e):putTo l f (i+1)=putStep f (putTo l f i) e:=by
 obtain⟨hi,rfl⟩:=List.getElem?_eq_some_iff.1 h;unfold putTo;rw[List.take_succ_eq_append_getElem hi,List.foldl_append];rfl
theorem putTo_len (l:List AtomD) (f:AtomD) (i:Nat):(putTo l f i).1.length≤i+(if (putTo l f i).2 then 1 else 0):=by
 unfold putTo
 have key:∀(m:List AtomD) (q:List AtomD × Bool),((m.foldl (putStep f) q).1.length≤q.1.length+m.length+(if q.2 then 0 else if (m.foldl (putStep f) q).2 then 1 else 0))∧(q.2=true→(m.foldl (putStep f) q).2=true):=by
  intro m
  induction m with
  |nil=>intro q;simp
  |cons e m ih=>
   intro q;obtain⟨h1,h2⟩:=ih (putStep f q e);rw[List.foldl_cons];unfold putStep at h1 h2 ⊢
   cases hq:q.2 with
   |true=>
    rw[hq] at h1 h2;simp only[Bool.not_true,Bool.false_and,Bool.false_eq_true,if_false,if_true] at h1 h2 ⊢;refine⟨?_,fun _=>h2 trivial⟩;simp at h1 ⊢;omega
   |false=>
    rw[hq] at h1 h2
    cases hl:lessF e f with
    |true=>
     rw[hl] at h1 h2;simp only[Bool.not_true,Bool.not_false,Bool.and_false,Bool.false_eq_true,if_false] at h1 h2 ⊢;refine⟨?_,fun h=>by cases h⟩;simp at h1 ⊢;omega
    |false=>
     rw[hl] at h1 h2;simp only[Bool.not_false,Bool.and_true,if_true,Bool.false_eq_true,if_false] at h1 h2 ⊢;have h3:=h2 trivial;refine⟨?_,fun h=>by cases h⟩;rw[if_pos h3];by_cases he:e=f
     ·rw[if_pos he] at h1 ⊢;simp at h1 ⊢;omega
     ·rw[if_neg he] at h1 ⊢;simp at h1 ⊢;omega
 have:=(key (l.take i) ([],false)).1;have hl:(l.take i).length≤i:=List.length_take_le _ _;simp at this;omega
def GavePut (w:World) (l:List AtomD) (e:Ending) (w':World):Prop:=∃v' W bss,e=.returned v'∧w.heap.size≤W.heap.size∧OutInv 127 W w' v' l bss∧Below w.heap.size w w'
set_option maxRecDepth 100000 in
set_option maxHeartbeats 16000000 in
theorem sPut5_inv (w:World) (v vf:Value) (l:List AtomD) (f:AtomD) (h:RdAtomS w v l) (hf:RdAtom w vf f) (hz:∀x∈l,x.2.length≤1048576) (hz2:l.length≤1048576) (hzf:f.2.length≤1048576) :
  Calls Tryz.prog 147 #[v,vf] w (GavePut w (putF l f)):=by
 obtain⟨a,n,c,rfl,h⟩:=h;obtain⟨hl,hn,hm,hcell⟩:=h.at
 unfold maxLen at hm;rw[hl] at hz2;obtain⟨fa,fn,fc,rfl,hfi,hf⟩:=hf;have hb0:∀a,Below w.heap.size w (w.alloc a):=fun a=>(Below.refl _ _).alloc (Nat.le_refl _) _
 have HB0:=Lib.hid hb0;have HC:=Lib.hid hcell;have HL:=Lib.hid hl;have HZ:=Lib.hid hz;have HF:=Lib.hid hf;have HFI:=Lib.hid hfi;have hCp:=Lib.hid (fun w v f h hz=>sCopy5_any w v f h hz);have hLe:=Lib.hid (fun w r r' v v' l l' a b=>sLess5_any w r r' v v' l l' a b);have hSa:=Lib.hid (fun w r r' v v' l l' a b=>sSame5_any w r r' v v' l l' a b);have hcF:=Lib.hid (fun w h=>hCp.out w (.agg #[.int .i64 f.1,.slice fa fn fc]) f ⟨fa,fn,fc,rfl,HFI.out,h⟩ hzf);unfold ROAtom at hcF;have HFE:Hid ((f.1,f.2)=f):=rfl;have HFL:Hid (∀e:AtomD,lessAtomB e.1 e.2 f.1 f.2=lessF e f):=fun e=>rfl
 have HFS:Hid (∀x:AtomD,decide (x.1=f.1∧x.2=f.2)=decide (x=f)):=fun x=>atom_ext (y:=f)
 generalize f.1=fr at *;generalize f.2=fl at *;clear h hcell hl hz hf hfi hb0 hzf;go_enter Tryz.func147,Tryz.ntmps147
 go_wp2_with fail
 obtain⟨W,hW⟩:∃W,W=w.alloc (.cells #[.int .i64 fr,.slice fa fn fc] 127):=⟨_,rfl⟩
 have K0:Hid (W.cell? ⟨w.heap.size,0,none⟩=some (.int .i64 fr)):=by rw[hW];unfold Hid;simp
 have K1:Hid (W.cell? ⟨w.heap.size,1,none⟩=some (.slice fa fn fc)):=by rw[hW];unfold Hid;simp
 have HBW:Hid (Below w.heap.size w W):=by rw[hW];exact HB0.out _
 have hws:w.heap.size+1=W.heap.size:=by rw[hW];simp
 rw[←hW];have HLIT:=Lib.hid (OutInv.lit 127 W W (Below.refl _ _))
 try rw[hws]
 clear hW hws
 go_loopw [5,6,7] (fun ov pv iv wr=>∃i:Nat,i≤n∧iv=.int .i64 i∧pv=.bool (putTo l f i).2∧∃bss,Hid (OutInv 127 W wr ov (putTo l f i).1 bss)) (fun _ _ iv _=>n-(intOf iv).toNat)
 case atStart=>exact⟨0,by omega,rfl,rfl,[],HLIT⟩
 case round=>
  obtain⟨i,hi,rfl,rfl,bss,HP⟩:=hrel;obtain⟨ov,hov⟩:∃ov,ov=u5:=⟨_,rfl⟩
  subst hov;have hbq:=HP.out.below;have hlen:=putTo_len l f i;by_cases hlt:i<n
  ·obtain⟨b,off,rfl,hbw,hc⟩:=HC.out (by omega);obtain⟨e,hd⟩:∃e,l[i]?=some e:=⟨l[i]'(by rw[HL.out];exact hlt),List.getElem?_eq_getElem (by rw[HL.out];exact hlt)⟩
   obtain⟨ea,em,ec,c0,c1,hdi,hints⟩:=atomAt (n:=n) hc i e hd;have hww:=bnext HBW.out hbq;have HNX:=Lib.hid (putTo_next (f:=f) hd);have hi0:(0:Int)≤i:=by omega
   have hi1:(i:Int)<n:=by omega
   have K0r:=Lib.hid (cellk hbq K0.out);have K1r:=Lib.hid (cellk hbq K1.out);have E0r:=Lib.hid (cellk hww c0);have E1r:=Lib.hid (cellk hww c1);have q0:=cell_regrown (w:=wr) K0r.out;have q1:=cell_regrown (w:=wr) K1r.out;have EW0:=Lib.hid (cellk HBW.out c0);have EW1:=Lib.hid (cellk HBW.out c1);have HIWW:=Lib.hid (hints.below HBW.out);have e0:=cell_regrown (w:=wr) E0r.out;have e1:=cell_regrown (w:=wr) E1r.out;have HIW:=Lib.hid (hints.below hww);have HFW:=Lib.hid (HF.out.below hww);have hcE:=Lib.hid (fun w h=>hCp.out w (.agg #[.int .i64 e.1,.slice ea em ec]) e ⟨ea,em,ec,rfl,hdi,h⟩ (HZ.out e (List.mem_of_getElem? hd)));unfold ROAtom at hcE;have hcL:=Lib.hid (fun dn os=>hLe.out (grow (redrawn wr dn) os) e.1 fr (.slice ea em ec) (.slice fa fn fc) e.2 fl (HIW.out.below (below_regrown wr dn os)) (HFW.out.below (below_regrown wr dn os)));rw[HFL.out] at hcL;have hcS:=Lib.hid (fun w h h'=>hSa.out w e.1 fr (.slice ea em ec) (.slice fa fn fc) e.2 fl h h');rw[HFS.out] at hcS;have HEE:Hid ((e.1,e.2)=e):=rfl;unfold putStep at HNX;obtain⟨cs,hc1,hc2⟩:=HP.out.parts;have HC1:=Lib.hid hc1;have HC2:=Lib.hid hc2;generalize hP2:(putTo l f i).2=p at *;generalize hP1:(putTo l f i).1=L at *;have hlen2:L.length≤i+1:=by cases p<;>simp at hlen<;>omega
   clear hP1 hP2 hc hbw hd c0 c1 hdi hints hbq hww hc1 hc2 hlen;generalize hle:lessF e f=q at *;clear hle
   have hcase:p=true∨(p=false∧q=true)∨(p=false∧q=false∧e=f)∨(p=false∧q=false∧e≠f):=by
    cases p<;>cases q<;>simp;exact Decidable.em _
   rcases hcase with rfl|⟨rfl,rfl⟩|⟨rfl,rfl,hef⟩|⟨rfl,rfl,hef⟩
   ·have HNX2:Hid (putTo l f (i+1)=(L++[e],true)):=by unfold Hid;rw[HNX.out];rfl
    clear HNX;go_wp2_with fail
    refine wp_region_quiet_below (by kernel_rfl) (by kernel_rfl) ?_
    repeat (any_goals (first|go_big_quiet_step ((go_at_call 152;exact Calls.regrown_of (hcL.out _ _)))|quiet_step ((go_at_call 152;exact Calls.regrown_of (hcL.out _ _)))))
    refine wpQuiet_nil ?_;intro _ hw';obtain⟨⟨dq,osq⟩,hw''⟩:=hw';subst hw'';have HRG:=Lib.hid (below_regrown wr dq osq);clear q0 q1 e0 e1;have HPX:=Lib.hid (HP.out.grow HRG.out);generalize grow (redrawn wr dq) osq=wx at *;have hbx:=HPX.out.below;have e0:=cellk hbx EW0.out;have e1:=cellk hbx EW1.out;have hcX:=Lib.hid (hcE.out _ (HIWW.out.below hbx));obtain⟨csX,hc1x,hc2x⟩:=HPX.out.parts;have HC1X:=Lib.hid hc1x;have HC2X:=Lib.hid hc2x;clear hbx hc1x hc2x;go_wp2_with fail
    refine hcX.out.mono ?_;rintro e2 w2 ⟨v2,bs2,rfl,⟨a2,n2,c2,rfl,hr2,ho2⟩,hf2,hb2⟩;have HB2:=Lib.hid hb2;have HO2:=Lib.hid ho2;have HF2:=Lib.hid hf2;have HR2:=Lib.hid hr2;have HGR:=Lib.hid (HC1X.out.grow hb2);clear hb2 ho2 hf2 hr2;go_wp2_with (at_builtin;refine wpList_app1D rfl (.tmp 38) (.tmp 44) 36 rfl 127 (.agg #[.int .i64 0,.slice none 0 0]) 2 32 Tryz.underlying36 info_Fact (by decide) (by decide) (by rfl) ov L.length csX rfl HGR.out [.int .i64 e.1,.slice a2 n2 c2] rfl (by simp[Value.oneCell']) (by first|rfl|(simp;rfl)) (by omega) ?_)
    intro v' w3 hown' ko hbl;have HNEW:=Lib.hid (OutInv.step HPX.out HC1X.out HC2X.out HB2.out (Below.refl _ _) HO2.out HF2.out HR2.out hown' ko (fun b hb=>(hbl b hb).imp id (fun h=>by simpa using h)));clear hown' ko hbl;clear e0 e1;go_wp2_with fail
    exact⟨⟨i+1,by omega,by simp,by rw[HNX2.out],_,by rw[HNX2.out];exact HNEW⟩,by simp[intOf];omega⟩
   ·have HNX2:Hid (putTo l f (i+1)=(L++[e],false)):=by unfold Hid;rw[HNX.out];rfl
    clear HNX;go_wp2_with fail
    refine wp_region_quiet_below (by kernel_rfl) (by kernel_rfl) ?_
    repeat (any_goals (first|go_big_quiet_step ((go_at_call 152;exact Calls.regrown_of (hcL.out _ _)))|quiet_step ((go_at_call 152;exact Calls.regrown_of (hcL.out _ _)))))
    refine wpQuiet_nil ?_;intro _ hw';obtain⟨⟨dq,osq⟩,hw''⟩:=hw';subst hw'';have HRG:=Lib.hid (below_regrown wr dq osq);clear q0 q1 e0 e1;have HPX:=Lib.hid (HP.out.grow HRG.out);generalize grow (redrawn wr dq) osq=wx at *;have hbx:=HPX.out.below;have e0:=cellk hbx EW0.out;have e1:=cellk hbx EW1.out;have hcX:=Lib.hid (hcE.out _ (HIWW.out.below hbx));obtain⟨csX,hc1x,hc2x⟩:=HPX.out.parts;have HC1X:=Lib.hid hc1x;have HC2X:=Lib.hid hc2x;clear hbx hc1x hc2x;go_wp2_with fail
    refine hcX.out.mono ?_;rintro e2 w2 ⟨v2,bs2,rfl,⟨a2,n2,c2,rfl,hr2,ho2⟩,hf2,hb2⟩;have HB2:=Lib.hid hb2;have HO2:=Lib.hid ho2;have HF2:=Lib.hid hf2;have HR2:=Lib.hid hr2;have HGR:=Lib.hid (HC1X.out.grow hb2);clear hb2 ho2 hf2 hr2;go_wp2_with (at_builtin;refine wpList_app1D rfl (.tmp 38) (.tmp 44) 36 rfl 127 (.agg #[.int .i64 0,.slice none 0 0]) 2 32 Tryz.underlying36 info_Fact (by decide) (by decide) (by rfl) ov L.length csX rfl HGR.out [.int .i64 e.1,.slice a2 n2 c2] rfl (by simp[Value.oneCell']) (by first|rfl|(simp;rfl)) (by omega) ?_)
    intro v' w3 hown' ko hbl;have HNEW:=Lib.hid (OutInv.step HPX.out HC1X.out HC2X.out HB2.out (Below.refl _ _) HO2.out HF2.out HR2.out hown' ko (fun b hb=>(hbl b hb).imp id (fun h=>by simpa using h)));clear hown' ko hbl;clear e0 e1;go_wp2_with fail
    exact⟨⟨i+1,by omega,by simp,by rw[HNX2.out],_,by rw[HNX2.out];exact HNEW⟩,by simp[intOf];omega⟩
   ·have HNX2:Hid (putTo l f (i+1)=(L++[e],true)):=by unfold Hid;rw[HNX.out];simp[hef]
    clear HNX;have HEF:=Lib.hid hef;clear hef;go_wp2_with fail
    refine wp_region_quiet_below (by kernel_rfl) (by kernel_rfl) ?_
    repeat (any_goals (first|go_big_quiet_step ((go_at_call 152;exact Calls.regrown_of (hcL.out _ _)))|quiet_step ((go_at_call 152;exact Calls.regrown_of (hcL.out _ _)))))
    refine wpQuiet_nil ?_;intro _ hw';obtain⟨⟨dq,osq⟩,hw''⟩:=hw';subst hw'';have HRG:=Lib.hid (below_regrown wr dq osq);clear q0 q1 e0 e1;generalize grow (redrawn wr dq) osq=wx at *;have q0:=cell_regrown (w:=wx) (cellk HRG.out K0r.out);have q1:=cell_regrown (w:=wx) (cellk HRG.out K1r.out);have e0:=cell_regrown (w:=wx) (cellk HRG.out E0r.out);have e1:=cell_regrown (w:=wx) (cellk HRG.out E1r.out);rw[decide_eq_true HEF.out] at hcS;go_wp2_with fail
    refine wp_region_quiet_below (by kernel_rfl) (by kernel_rfl) ?_
    repeat (any_goals (first|go_big_quiet_step ((go_at_call 178;exact Calls.regrown_of (hcS.out _ (HIW.out.below (bnext HRG.out (below_regrown _ _ _))) (HFW.out.below (bnext HRG.out (below_regrown _ _ _))))))|quiet_step ((go_at_call 178;exact Calls.regrown_of (hcS.out _ (HIW.out.below (bnext HRG.out (below_regrown _ _ _))) (HFW.out.below (bnext HRG.out (below_regrown _ _ _))))))))
    refine wpQuiet_nil ?_;intro _ hw';obtain⟨⟨dr,osr⟩,hw''⟩:=hw';subst hw'';have HRG2:=Lib.hid (bnext HRG.out (below_regrown wx dr osr));clear q0 q1 e0 e1;have HPX:=Lib.hid (HP.out.grow HRG2.out);generalize grow (redrawn wx dr) osr=wy at *;have hbx:=HPX.out.below;have e0:=cellk hbx EW0.out;have e1:=cellk hbx EW1.out;have hcX:=Lib.hid (hcE.out _ (HIWW.out.below hbx));obtain⟨csX,hc1x,hc2x⟩:=HPX.out.parts;have HC1X:=Lib.hid hc1x;have HC2X:=Lib.hid hc2x;clear hbx hc1x hc2x;go_wp2_with fail
    refine hcX.out.mono ?_;rintro e2 w2 ⟨v2,bs2,rfl,⟨a2,n2,c2,rfl,hr2,ho2⟩,hf2,hb2⟩;have HB2:=Lib.hid hb2;have HO2:=Lib.hid ho2;have HF2:=Lib.hid hf2;have HR2:=Lib.hid hr2;have HGR:=Lib.hid (HC1X.out.grow hb2);clear hb2 ho2 hf2 hr2;go_wp2_with (at_builtin;refine wpList_app1D rfl (.tmp 38) (.tmp 44) 36 rfl 127 (.agg #[.int .i64 0,.slice none 0 0]) 2 32 Tryz.underlying36 info_Fact (by decide) (by decide) (by rfl) ov L.length csX rfl HGR.out [.int .i64 e.1,.slice a2 n2 c2] rfl (by simp[Value.oneCell']) (by first|rfl|(simp;rfl)) (by omega) ?_)
    intro v' w3 hown' ko hbl;have HNEW:=Lib.hid (OutInv.step HPX.out HC1X.out HC2X.out HB2.out (Below.refl _ _) HO2.out HF2.out HR2.out hown' ko (fun b hb=>(hbl b hb).imp id (fun h=>by simpa using h)));clear hown' ko hbl;clear e0 e1;go_wp2_with fail
    exact⟨⟨i+1,by omega,by simp,by rw[HNX2.out],_,by rw[HNX2.out];exact HNEW⟩,by simp[intOf];omega⟩
   ·have HNX2:Hid (putTo l f (i+1)=(L++[f]++[e],true)):=by unfold Hid;rw[HNX.out];simp[hef]
    clear HNX;have HEF:=Lib.hid hef;clear hef;go_wp2_with fail
    refine wp_region_quiet_below (by kernel_rfl) (by kernel_rfl) ?_
    repeat (any_goals (first|go_big_quiet_step ((go_at_call 152;exact Calls.regrown_of (hcL.out _ _)))|quiet_step ((go_at_call 152;exact Calls.regrown_of (hcL.out _ _)))))
    refine wpQuiet_nil ?_;intro _ hw';obtain⟨⟨dq,osq⟩,hw''⟩:=hw';subst hw'';have HRG:=Lib.hid (below_regrown wr dq osq);clear q0 q1 e0 e1;generalize grow (redrawn wr dq) osq=wx at *;have q0:=cell_regrown (w:=wx) (cellk HRG.out K0r.out);have q1:=cell_regrown (w:=wx) (cellk HRG.out K1r.out);have e0:=cell_regrown (w:=wx) (cellk HRG.out E0r.out);have e1:=cell_regrown (w:=wx) (cellk HRG.out E1r.out);rw[decide_eq_false HEF.out] at hcS;go_wp2_with fail
    refine wp_region_quiet_below (by kernel_rfl) (by kernel_rfl) ?_
    repeat (any_goals (first|go_big_quiet_step ((go_at_call 178;exact Calls.regrown_of (hcS.out _ (HIW.out.below (bnext HRG.out (below_regrown _ _ _))) (HFW.out.below (bnext HRG.out (below_regrown _ _ _))))))|quiet_step ((go_at_call 178;exact Calls.regrown_of (hcS.out _ (HIW.out.below (bnext HRG.out (below_regrown _ _ _))) (HFW.out.below (bnext HRG.out (below_regrown _ _ _))))))))
    refine wpQuiet_nil ?_;intro _ hw';obtain⟨⟨dr,osr⟩,hw''⟩:=hw';subst hw'';have HRG2:=Lib.hid (bnext HRG.out (below_regrown wx dr osr));clear q0 q1 e0 e1;generalize grow (redrawn wx dr) osr=wy at *;have HPY:=Lib.hid (HP.out.grow HRG2.out);have HC1Y:=Lib.hid (HC1.out.grow HRG2.out);have HC2Y:=Lib.hid (HC2.out.grow HRG2.out);have q0:=cellk HRG2.out K0r.out;have q1:=cellk HRG2.out K1r.out;go_wp2_with fail
    refine (hcF.out wy (HFW.out.below HRG2.out)).mono ?_;rintro e2 w2 ⟨v2,bs2,rfl,⟨a2,n2,c2,rfl,hr2,ho2⟩,hf2,hb2⟩;have HB2:=Lib.hid hb2;have HO2:=Lib.hid ho2;have HF2:=Lib.hid hf2;have HR2:=Lib.hid hr2;have HGR:=Lib.hid (HC1Y.out.grow hb2);clear hb2 ho2 hf2 hr2;go_wp2_with (at_builtin;refine wpList_app1D rfl (.tmp 33) (.tmp 36) 36 rfl 127 (.agg #[.int .i64 0,.slice none 0 0]) 2 32 Tryz.underlying36 info_Fact (by decide) (by decide) (by rfl) ov L.length cs rfl HGR.out [.int .i64 fr,.slice a2 n2 c2] rfl (by simp[Value.oneCell']) (by first|rfl|(simp;rfl)) (by omega) ?_)
    intro v' w3 hown' ko hbl;have HNEW:=Lib.hid (OutInv.step HPY.out HC1Y.out HC2Y.out HB2.out (Below.refl _ _) HO2.out HF2.out HR2.out hown' ko (fun b hb=>(hbl b hb).imp id (fun h=>by simpa using h)));clear hown' ko hbl;clear q0 q1;have HPX:Hid (OutInv 127 W w3 v' (L++[f]) (bss++[bs2])):=by rw[←HFE.out];exact HNEW
    clear HNEW HB2 HO2 HF2 HR2 HGR;generalize bss++[bs2]=bssX at *;have hlenX:(L++[f]).length≤i+2:=by simp;omega
    generalize hLX:L++[f]=LX at *;clear hLX;have hbx:=HPX.out.below;have e0:=cellk hbx EW0.out;have e1:=cellk hbx EW1.out;have hcX:=Lib.hid (hcE.out _ (HIWW.out.below hbx));obtain⟨csX,hc1x,hc2x⟩:=HPX.out.parts;have HC1X:=Lib.hid hc1x;have HC2X:=Lib.hid hc2x;clear hbx hc1x hc2x;go_wp2_with fail
    refine hcX.out.mono ?_;rintro e2 w2 ⟨v2,bs2,rfl,⟨a2,n2,c2,rfl,hr2,ho2⟩,hf2,hb2⟩;have HB2:=Lib.hid hb2;have HO2:=Lib.hid ho2;have HF2:=Lib.hid hf2;have HR2:=Lib.hid hr2;have HGR:=Lib.hid (HC1X.out.grow hb2);clear hb2 ho2 hf2 hr2;go_wp2_with (at_builtin;refine wpList_app1D rfl (.tmp 38) (.tmp 44) 36 rfl 127 (.agg #[.int .i64 0,.slice none 0 0]) 2 32 Tryz.underlying36 info_Fact (by decide) (by decide) (by rfl) v' LX.length csX rfl HGR.out [.int .i64 e.1,.slice a2 n2 c2] rfl (by simp[Value.oneCell']) (by first|rfl|(simp;rfl)) (by omega) ?_)
    intro v' w3 hown' ko hbl;have HNEW:=Lib.hid (OutInv.step HPX.out HC1X.out HC2X.out HB2.out (Below.refl _ _) HO2.out HF2.out HR2.out hown' ko (fun b hb=>(hbl b hb).imp id (fun h=>by simpa using h)));clear hown' ko hbl;clear e0 e1;go_wp2_with fail
    exact⟨⟨i+1,by omega,by simp,by rw[HNX2.out],_,by rw[HNX2.out];exact HNEW⟩,by simp[intOf];omega⟩
  ·obtain rfl:i=n:=by omega
   have HPE:Hid (putF l f=if (putTo l f i).2 then (putTo l f i).1 else (putTo l f i).1++[f]):=by unfold Hid putF;rw[HL.out]
   have q0:=cellk hbq K0.out;have q1:=cellk hbq K1.out;have HBQ:=Lib.hid hbq;have HFW:=Lib.hid (HF.out.below (bnext HBW.out hbq));obtain⟨cs,hc1,hc2⟩:=HP.out.parts;have HC1:=Lib.hid hc1;have HC2:=Lib.hid hc2
   have HPF:Hid (∀w3 v3 L3 bss3,OutInv 127 W w3 v3 L3 bss3→L3=putF l f→GavePut w (putF l f) (.returned v3) w3):=by
    rintro w3 v3 L3 bss3 hp rfl;exact⟨v3,W,bss3,rfl,HBW.out.size,hp,bnext HBW.out hp.below⟩
   generalize hP2:(putTo l f i).2=p at *;generalize hP1:(putTo l f i).1=L at *;have hlen2:L.length≤i+1:=by cases p<;>simp at hlen<;>omega
   clear hP1 hP2 hlen hbq hc1 hc2
   cases p with
   |true=>
    have HQ:Hid (L=putF l f):=by unfold Hid;rw[HPE.out];rfl
    clear HPE q0 q1;go_wp2_with fail
    go_ret;exact HPF.out _ _ _ _ HP.out HQ.out
   |false=>
    have HQ:Hid (L++[(fr,fl)]=putF l f):=by unfold Hid;rw[HPE.out,HFE.out];rfl
    clear HPE;go_wp2_with fail
    refine (hcF.out wr HFW.out).mono ?_;rintro e2 w2 ⟨v2,bs2,rfl,⟨a2,n2,c2,rfl,hr2,ho2⟩,hf2,hb2⟩;have HB2:=Lib.hid hb2;have HO2:=Lib.hid ho2;have HF2:=Lib.hid hf2;have HR2:=Lib.hid hr2;have HGR:=Lib.hid (HC1.out.grow hb2);clear hb2 ho2 hf2 hr2;go_wp2_with (at_builtin;refine wpList_app1D rfl (.tmp 48) (.tmp 51) 36 rfl 127 (.agg #[.int .i64 0,.slice none 0 0]) 2 32 Tryz.underlying36 info_Fact (by decide) (by decide) (by rfl) ov L.length cs rfl HGR.out [.int .i64 fr,.slice a2 n2 c2] rfl (by simp[Value.oneCell']) (by first|rfl|(simp;rfl)) (by omega) ?_)
    intro v' w3 hown' ko hbl;have HNEW:=Lib.hid (OutInv.step HP.out HC1.out HC2.out HB2.out (Below.refl _ _) HO2.out HF2.out HR2.out hown' ko (fun b hb=>(hbl b hb).imp id (fun h=>by simpa using h)));clear hown' ko hbl;clear q0 q1;go_wp2_with fail
    go_ret;exact HPF.out _ _ _ _ HNEW.out HQ.out
theorem putTo_mem (l:List AtomD) (f:AtomD) (i:Nat):∀x∈(putTo l f i).1,x∈l∨x=f:=by
 unfold putTo
 have key:∀(m:List AtomD) (q:List AtomD × Bool),(∀x∈q.1,x∈l∨x=f)→(∀x∈m,x∈l)→∀x∈(m.foldl (putStep f) q).1,x∈l∨x=f:=by
  intro m
  induction m with
  |nil=>intro q h _;exact h
  |cons e m ih=>
   intro q h hm;rw[List.foldl_cons];refine ih _ (fun x hx=>?_) (fun x hx=>hm x (by simp[hx]));have he:=hm e (by simp);unfold putStep at hx
   split at hx
   ·rcases List.mem_append.1 hx with hx|hx
    ·split at hx
     ·exact h x hx
     ·rcases List.mem_append.1 hx with hx|hx
      ·exact h x hx
      ·right;simpa using hx
    ·left;have:x=e:=by simpa using hx
     rw[this];exact he
   ·rcases List.mem_append.1 hx with hx|hx
    ·exact h x hx
    ·left;have:x=e:=by simpa using hx
     rw[this];exact he
 exact key _ _ (fun x hx=>by simp at hx) (fun x hx=>List.mem_of_mem_take hx)
theorem putF_mem (l:List AtomD) (f:AtomD):∀x∈putF l f,x∈l∨x=f:=by
 intro x hx;unfold putF at hx
 split at hx
 ·exact putTo_mem l f _ x hx
 ·rcases List.mem_append.1 hx with hx|hx
  ·exact putTo_mem l f _ x hx
  ·right;simpa using hx
theorem putF_len (l:List AtomD) (f:AtomD):(putF l f).length≤l.length+1:=by
 have h:=putTo_len l f l.length;unfold putF
 split
 ·rename_i hq;rw[if_pos hq] at h;exact h
 ·rename_i hq;rw[if_neg hq] at h;simp;omega
end Go.Proofs.YtpedpbbiamhgdaaGreatDoor
