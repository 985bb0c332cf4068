import Derived.Test.YtpedpbbiamhgdaaGreatDoorIrAll
import Derived.Test.YtpedpbbiamhgdaaGreatDoorS12
import Derived.Lib.QuietBelow
import Derived.Test.YtpedpbbiamhgdaaGreatDoorI5fd
import Derived.Test.YtpedpbbiamhgdaaGreatDoorBase
import Derived.Test.YtpedpbbiamhgdaaGreatDoorProg
import Derived.WalkKit
import Derived.LaidEql
import Derived.Stop.Asserts
import Derived.RowKitTokens
import Derived.Lib.ReflectliteSwap
import Derived.Laws.IdiomCopy
namespace Go.Proofs.YtpedpbbiamhgdaaGreatDoor
open Go Go.Sort Go.RowKit
set_option linter.unusedVariables false
def ascAt (l:List Int) (i:Nat):Bool:=decide (i=0)||decide (l.getD (i-1) 0<l.getD i 0)
def ascB (l:List Int):Bool:=(List.range l.length).all (ascAt l)
theorem asc_no {l:List Int} (i:Nat) (hi:i<l.length) (h:ascAt l i=false):ascB l=false:=by
 unfold ascB;rw[List.all_eq_false];exact⟨i,List.mem_range.2 hi,by rw[h];decide⟩
theorem asc_yes {l:List Int} (h:∀i,i<l.length→ascAt l i=true):ascB l=true:=List.all_eq_true.2 (fun i hi=>h i (List.mem_range.1 hi))
theorem asc_0 (l:List Int) (j:Nat) (h:j<0+1):ascAt l j=true:=by
 obtain rfl:j=0:=by omega
 rfl
theorem key_parts (s l:List Int) (r:Int):isKeyB s r l=(relB s r&&(inB l.length 1 3&&(upB (s.getD r.toNat 0-1) l&&ascB l))):=by
 have e:(List.range l.length).all (plK s r l)=(upB (s.getD r.toNat 0-1) l&&ascB l):=by
  cases hu:upB (s.getD r.toNat 0-1) l with
  |false=>
   obtain⟨x,hx,hb⟩:=List.all_eq_false.1 hu;obtain⟨i,hi,rfl⟩:=List.mem_iff_getElem.1 hx;rw[Bool.false_and,List.all_eq_false];refine⟨i,List.mem_range.2 hi,?_⟩;unfold plK;rw[List.getD_eq_getElem?_getD,List.getElem?_eq_getElem hi];simp only[Option.getD_some];rw[Bool.not_eq_true] at hb;rw[hb,Bool.false_and];exact Bool.false_ne_true
  |true=>
   rw[Bool.true_and];unfold ascB
   have:∀i∈List.range l.length,plK s r l i=ascAt l i:=fun i hi=>by
    have h1:inB (l.getD i 0) 0 (s.getD r.toNat 0-1)=true:=List.all_eq_true.1 hu _ (getD_mem (List.mem_range.1 hi));unfold plK ascAt;rw[h1];rfl
   rw[Bool.eq_iff_iff,List.all_eq_true,List.all_eq_true];exact⟨fun h i hi=>by rw[←this i hi];exact h i hi,fun h i hi=>by rw[this i hi];exact h i hi⟩
 unfold isKeyB relB;rw[e,Bool.and_assoc]
theorem schema_pos {s:List Int} {k:Nat} (h1:isSchemaB s=true) (hk:k<s.length):0≤s.getD k 0:=by
 unfold isSchemaB at h1;rw[Bool.and_eq_true,List.all_eq_true] at h1;have h4:1≤s.getD k 0∧s.getD k 0≤3:=of_decide_eq_true (h1.1 _ (getD_mem hk));omega
set_option maxHeartbeats 4000000 in
theorem iAsc_any (w:World) (v:Value) (l:List Int) (h:Ints w v l) :
  Calls Tryz.prog 134 #[v] w (GaveBool w (ascB l)):=by
 obtain⟨a,n,cap,rfl,hl,hn,hm,hcell⟩:=h.cases;unfold maxLen at hm;have HC:=Lib.hid hcell;have HL:=Lib.hid hl;clear h hcell hl;go_enter Tryz.func134,Tryz.ntmps134
 go_wp2_with fail
 go_loopw [3] (fun iv wr=>∃k:Nat,k≤n∧iv=.int .i64 ((k+1:Nat):Int)∧Below w.heap.size w wr∧Hid (∀j,j<k+1→ascAt l j=true)) (fun iv _=>n+1-(intOf iv).toNat)
 case atStart=>exact⟨0,by omega,rfl,Below.refl _ _,asc_0 l⟩
 case round=>
  obtain⟨k,hk,rfl,hb,HE⟩:=hrel;have HB:=Lib.hid hb;by_cases hlt:k+1<n
  ·obtain⟨b,off,rfl,hbw,hc⟩:=HC.out (by omega);have c1:=cell_regrown (w:=wr) (cellk hb (hc k (by omega)));have c2:=cell_regrown (w:=wr) (cellk hb (hc (k+1) hlt));have hk0:(0:Int)≤k:=by omega
   have hk1:(k:Int)<n:=by omega
   have hk2:(0:Int)≤((k+1:Nat):Int):=by omega
   have hk3:((k+1:Nat):Int)<n:=by omega
   have HNO:Hid (ascAt l (k+1)=false→ascB l=false):=fun h=>asc_no (k+1) (by rw[HL.out];exact hlt) h
   have HY:Hid (ascAt l (k+1)=true→∀j,j<k+1+1→ascAt l j=true):=fun h j hj=>by
    rcases Nat.lt_or_ge j (k+1) with h7|h7
    ·exact HE.out j h7
    ·obtain rfl:j=k+1:=by omega
     exact h
   have HP:Hid (ascAt l (k+1)=decide (l.getD k 0<l.getD (k+1) 0)):=by unfold Hid ascAt;rw[decide_eq_false (by omega),Nat.add_sub_cancel,Bool.false_or]
   clear hc hbw HE hb;generalize l.getD (k+1) 0=x at *;generalize l.getD k 0=y at *;by_cases h7:y<x
   ·have HE2:=Lib.hid (HY.out (by rw[HP.out,decide_eq_true h7]));have hg2:¬(x≤y):=by omega
    clear HNO HY HP h7;go_wp2_with fail
    refine wp_region_quiet_below (by kernel_rfl) (by kernel_rfl) ?_
    repeat (any_goals (first|go_big_quiet_step (fail)|quiet_step (fail)))
    refine wpQuiet_nil ?_;intro _ hw';obtain⟨⟨dq,osq⟩,hw''⟩:=hw';subst hw'';go_wp2_with fail
    exact⟨⟨k+1,by omega,by simp,bnext HB.out (below_regrown _ _ _),HE2.out⟩,by simp[intOf];omega⟩
   ·have HQ:=Lib.hid (HNO.out (by rw[HP.out,decide_eq_false h7]));have hg2:x≤y:=by omega
    clear HNO HY HP h7;go_wp2_with fail
    refine wp_region_quiet_below (by kernel_rfl) (by kernel_rfl) ?_
    repeat (any_goals (first|go_big_quiet_step (fail)|quiet_step (fail)))
    refine wpQuiet_nil ?_;intro _ hw';obtain⟨⟨dq,osq⟩,hw''⟩:=hw';subst hw'';go_wp2_with fail
    go_ret;exact⟨ret_b HQ.out.symm,bnext HB.out (below_regrown _ _ _)⟩
  ·have HX:=Lib.hid (asc_yes (l:=l) (fun j hj=>HE.out j (by rw[HL.out] at hj;omega)));have hg:¬(((k+1:Nat):Int)<n):=by omega
   clear hb;go_wp2_with fail
   go_ret;exact⟨ret_b HX.out.symm,HB.out⟩
set_option maxHeartbeats 4000000 in
theorem iPlaces_any (w:World) (m:Int) (v:Value) (l:List Int) (hm0:inI m) (hm1:0≤m) (h:Ints w v l) :
  Calls Tryz.prog 133 #[v,.int .i64 m] w fun e w'=>e=.returned (.bool (inB l.length 1 3&&upB (m-1) l))∧w=w':=by
 obtain⟨a,n,cap,rfl,hl,hn,hm,hcell⟩:=h.cases;unfold maxLen at hm;have hU:=Lib.hid (fun w h=>iUpTo_any w (m-1) (.slice a n cap) l h);have HI:=Lib.hid h;have hwr:wrap64 (m-1)=m-1:=by unfold inI at hm0;unfold wrap64;omega
 by_cases h1:1≤n
 ·by_cases h2:n≤3
  ·have HQ:Hid (inB l.length 1 3=true):=decide_eq_true (by omega);obtain⟨q,hq⟩:∃q,upB (m-1) l=q:=⟨_,rfl⟩
   rw[hq] at hU;have HQ2:=Lib.hid hq;have h1':(1:Int)≤n:=by omega
   have h2':(n:Int)≤3:=by omega
   clear h hcell hl hq h1 h2;go_enter Tryz.func133,Tryz.ntmps133
   go_wp2_with fail
   refine (hU.out _ HI.out).mono ?_;rintro e w1 ⟨rfl,rfl⟩;go_wp2_with fail
   go_ret;exact⟨ret_b (by rw[HQ.out,HQ2.out];rfl),rfl⟩
  ·have HQ:Hid (inB l.length 1 3=false):=decide_eq_false (by omega);have h1':(1:Int)≤n:=by omega
   have h2':¬((n:Int)≤3):=by omega
   clear h hcell hl h1 h2;go_enter Tryz.func133,Tryz.ntmps133
   go_wp2_with fail
   go_ret;exact⟨ret_b (by rw[HQ.out];rfl),rfl⟩
 ·have HQ:Hid (inB l.length 1 3=false):=decide_eq_false (by omega);have h1':¬((1:Int)≤n):=by omega
  clear h hcell hl h1;go_enter Tryz.func133,Tryz.ntmps133
  go_wp2_with fail
  go_ret;exact⟨ret_b (by rw[HQ.out];rfl),rfl⟩
set_option maxHeartbeats 4000000 in
theorem iIsKey_any (w:World) (r:Int) (vs v:Value) (s l:List Int) (hs:Ints w vs s) (h:Ints w v l) :
  Calls Tryz.prog 84 #[.agg #[vs],.agg #[.int .i64 r,v]] w (GaveBool w (isKeyB s r l)):=by
 obtain⟨a,n,cap,rfl,hl,hn,hm,hcell⟩:=hs.cases;obtain⟨a',n',cap',rfl,hl',hn',hm',hcell'⟩:=h.cases;unfold maxLen at hm hm';have hb0:∀a b,Below w.heap.size w ((w.alloc a).alloc b):=fun a b=>((Below.refl _ _).alloc (Nat.le_refl _) _).alloc (by simp) _
 have hR:=Lib.hid (fun w h=>iHasRel_any w r (.slice a n cap) s h);have hA:=Lib.hid (fun w h=>iAsc_any w (.slice a' n' cap') l h);have HS:=Lib.hid hs;have HI:=Lib.hid h;have HB0:=Lib.hid hb0;have HK:=Lib.hid (key_parts s l r)
 cases h1:relB s r with
 |false=>
  have HQ:Hid (isKeyB s r l=false):=by unfold Hid;rw[HK.out,h1];rfl
  rw[h1] at hR;clear hs h hcell hcell' hl hl' hb0 h1 HK;go_enter Tryz.func84,Tryz.ntmps84
  go_wp2_with fail
  obtain⟨W,hW⟩:∃W,W=((w.alloc (.cells #[.slice a n cap] 26)).alloc (.cells #[.int .i64 r,.slice a' n' cap'] 72)):=⟨_,rfl⟩
  have k0:=cell_regrown (w:=W) (a:=⟨w.heap.size,0,none⟩) (v:=.slice a n cap) (by rw[hW];simp);have k1:=cell_regrown (w:=W) (a:=⟨w.heap.size+1,0,none⟩) (v:=.int .i64 r) (by rw[hW];simp);have k2:=cell_regrown (w:=W) (a:=⟨w.heap.size+1,1,none⟩) (v:=.slice a' n' cap') (by rw[hW];simp);have HBW:Hid (Below w.heap.size w W):=by rw[hW];exact HB0.out _ _
  rw[←hW];have HSW:=Lib.hid (fun d os=>HS.out.below (HBW.out.trans ((below_regrown W d os).mono HBW.out.size)));have HIW:=Lib.hid (fun d os=>HI.out.below (HBW.out.trans ((below_regrown W d os).mono HBW.out.size)));clear hW;refine wp_region_quiet_below (by kernel_rfl) (by kernel_rfl) ?_
  repeat (any_goals (first|go_big_quiet_step ((first|(go_at_call 132;exact Calls.regrown_of (hR.out _ (HSW.out _ _)))))|quiet_step ((first|(go_at_call 132;exact Calls.regrown_of (hR.out _ (HSW.out _ _)))))))
  refine wpQuiet_nil ?_;intro _ hw';obtain⟨⟨dq,osq⟩,hw''⟩:=hw';subst hw'';go_wp2_with fail
  go_ret;exact⟨ret_b HQ.out.symm,bnext HBW.out (below_regrown _ _ _)⟩
 |true=>
  rw[h1] at hR;have h1':=h1;unfold relB at h1';rw[Bool.and_eq_true] at h1';have hr0:0≤r∧r≤(s.length:Int)-1:=of_decide_eq_true h1'.2;have h1s:=h1'.1;clear h1';obtain⟨k,rfl⟩:=Int.eq_ofNat_of_zero_le hr0.1;have hk:k<n:=by omega
  have hk0:(0:Int)≤k:=by omega
  have hk1:(k:Int)<n:=by omega
  obtain⟨b,off,rfl,hbw,hc⟩:=hcell (by omega);have c1:=Lib.hid (hc k hk);have HP:=Lib.hid (fun w h=>iPlaces_any w (s.getD k 0) (.slice a' n' cap') l (inI_getD HS.out.1 k) (schema_pos h1s (by rw[hl];exact hk)) h);rw[h1,Int.toNat_natCast] at HK;obtain⟨qp,hqp⟩:∃q,(inB l.length 1 3&&upB (s.getD k 0-1) l)=q:=⟨_,rfl⟩
  obtain⟨qa,hqa⟩:∃q,ascB l=q:=⟨_,rfl⟩
  have HQ:Hid (isKeyB s k l=(qp&&qa)):=by unfold Hid;rw[HK.out,←hqp,←hqa,Bool.true_and,Bool.and_assoc]
  rw[hqp] at HP;rw[hqa] at hA;generalize s.getD k 0=x at *;clear hs h hcell hcell' hl hl' hb0 h1 h1s hc hbw hr0 hqp hqa HK
  cases qp with
  |false=>
   go_enter Tryz.func84,Tryz.ntmps84
   go_wp2_with fail
   obtain⟨W,hW⟩:∃W,W=((w.alloc (.cells #[.slice (some ⟨b,off,none⟩) n cap] 26)).alloc (.cells #[.int .i64 k,.slice a' n' cap'] 72)):=⟨_,rfl⟩
   have k0:=cell_regrown (w:=W) (a:=⟨w.heap.size,0,none⟩) (v:=.slice (some ⟨b,off,none⟩) n cap) (by rw[hW];simp);have k1:=cell_regrown (w:=W) (a:=⟨w.heap.size+1,0,none⟩) (v:=.int .i64 k) (by rw[hW];simp);have k2:=cell_regrown (w:=W) (a:=⟨w.heap.size+1,1,none⟩) (v:=.slice a' n' cap') (by rw[hW];simp);have k3:=cell_regrown (w:=W) (a:=⟨b,off+k,none⟩) (by rw[hW];exact cellk (HB0.out _ _) c1.out);have HBW:Hid (Below w.heap.size w W):=by rw[hW];exact HB0.out _ _
   rw[←hW];have HSW:=Lib.hid (fun d os=>HS.out.below (HBW.out.trans ((below_regrown W d os).mono HBW.out.size)));have HIW:=Lib.hid (fun d os=>HI.out.below (HBW.out.trans ((below_regrown W d os).mono HBW.out.size)));clear hW;refine wp_region_quiet_below (by kernel_rfl) (by kernel_rfl) ?_
   repeat (any_goals (first|go_big_quiet_step ((first|(go_at_call 132;exact Calls.regrown_of (hR.out _ (HSW.out _ _)))|(go_at_call 133;exact Calls.regrown_of ((HP.out _ (HIW.out _ _)).mono (fun _ _ h=>⟨h.1,h.2 ▸ Below.refl _ _⟩)))))|quiet_step ((first|(go_at_call 132;exact Calls.regrown_of (hR.out _ (HSW.out _ _)))|(go_at_call 133;exact Calls.regrown_of ((HP.out _ (HIW.out _ _)).mono (fun _ _ h=>⟨h.1,h.2 ▸ Below.refl _ _⟩)))))))
   refine wpQuiet_nil ?_;intro _ hw';obtain⟨⟨dq,osq⟩,hw''⟩:=hw';subst hw'';go_wp2_with fail
   go_ret;exact⟨ret_b HQ.out.symm,bnext HBW.out (below_regrown _ _ _)⟩
  |true=>
   rw[Bool.true_and] at HQ;go_enter Tryz.func84,Tryz.ntmps84
   go_wp2_with fail
   obtain⟨W,hW⟩:∃W,W=((w.alloc (.cells #[.slice (some ⟨b,off,none⟩) n cap] 26)).alloc (.cells #[.int .i64 k,.slice a' n' cap'] 72)):=⟨_,rfl⟩
   have k0:=cell_regrown (w:=W) (a:=⟨w.heap.size,0,none⟩) (v:=.slice (some ⟨b,off,none⟩) n cap) (by rw[hW];simp);have k1:=cell_regrown (w:=W) (a:=⟨w.heap.size+1,0,none⟩) (v:=.int .i64 k) (by rw[hW];simp);have k2:=cell_regrown (w:=W) (a:=⟨w.heap.size+1,1,none⟩) (v:=.slice a' n' cap') (by rw[hW];simp);have k3:=cell_regrown (w:=W) (a:=⟨b,off+k,none⟩) (by rw[hW];exact cellk (HB0.out _ _) c1.out);have HBW:Hid (Below w.heap.size w W):=by rw[hW];exact HB0.out _ _
   rw[←hW];have HSW:=Lib.hid (fun d os=>HS.out.below (HBW.out.trans ((below_regrown W d os).mono HBW.out.size)));have HIW:=Lib.hid (fun d os=>HI.out.below (HBW.out.trans ((below_regrown W d os).mono HBW.out.size)));clear hW;refine wp_region_quiet_below (by kernel_rfl) (by kernel_rfl) ?_
   repeat (any_goals (first|go_big_quiet_step ((first|(go_at_call 132;exact Calls.regrown_of (hR.out _ (HSW.out _ _)))|(go_at_call 133;exact Calls.regrown_of ((HP.out _ (HIW.out _ _)).mono (fun _ _ h=>⟨h.1,h.2 ▸ Below.refl _ _⟩)))|(go_at_call 134;exact Calls.regrown_of (hA.out _ (HIW.out _ _)))))|quiet_step ((first|(go_at_call 132;exact Calls.regrown_of (hR.out _ (HSW.out _ _)))|(go_at_call 133;exact Calls.regrown_of ((HP.out _ (HIW.out _ _)).mono (fun _ _ h=>⟨h.1,h.2 ▸ Below.refl _ _⟩)))|(go_at_call 134;exact Calls.regrown_of (hA.out _ (HIW.out _ _)))))))
   refine wpQuiet_nil ?_;intro _ hw';obtain⟨⟨dq,osq⟩,hw''⟩:=hw';subst hw'';go_wp2_with fail
   go_ret;exact⟨ret_b HQ.out.symm,bnext HBW.out (below_regrown _ _ _)⟩
set_option maxHeartbeats 4000000 in
theorem iAreKeys_any (w:World) (vs v:Value) (s:List Int) (l:List AtomD) (hvs:RdSchema w vs s) (h:RdAtomS w v l) :
  Calls Tryz.prog 39 #[vs,v] w (GaveBool w (areKeysB s l)):=by
 obtain⟨sa,sn,sc,rfl,hs⟩:=hvs;obtain⟨a,n,c,rfl,h⟩:=h;obtain⟨hl,hn,hm,hcell⟩:=h.at
 unfold maxLen at hm;have hb0:∀a,Below w.heap.size w (w.alloc a):=fun a=>(Below.refl _ _).alloc (Nat.le_refl _) _
 have HB0:=Lib.hid hb0;have HC:=Lib.hid hcell;have HL:=Lib.hid hl;have HS:=Lib.hid hs;have hK:=Lib.hid (fun w r v l a b=>iIsKey_any w r (.slice sa sn sc) v s l a b);have hS:=Lib.hid (fun w h=>iIsSchema_any w (.slice sa sn sc) s h);have HQ:Hid (areKeysB s l=(l.all (fun k=>isKeyB s k.1 k.2)&&(isSchemaB s&&decide (n≤4)))):=by unfold Hid areKeysB;rw[hl]
 cases h1:isSchemaB s with
 |false=>
  have HQ2:Hid (areKeysB s l=false):=by unfold Hid;rw[HQ.out,h1,Bool.false_and,Bool.and_false]
  rw[h1] at hS;clear hs h hcell hl hb0 h1 HQ;go_enter Tryz.func39,Tryz.ntmps39
  go_wp2_with fail
  refine (hS.out _ (HS.out.below (HB0.out _))).mono ?_;rintro e w1 ⟨rfl,hb⟩;have HB1:=Lib.hid (bnext (HB0.out _) hb);clear hb;go_wp2_with fail
  go_ret;exact⟨ret_b HQ2.out.symm,HB1.out⟩
 |true=>
 rw[h1] at hS;by_cases h4:4<n
 ·have HQ2:Hid (areKeysB s l=false):=by unfold Hid;rw[HQ.out,decide_eq_false (by omega:¬n≤4),Bool.and_false,Bool.and_false]
  have h4':(4:Int)<n:=by omega
  clear hs h hcell hl hb0 h1 HQ h4;go_enter Tryz.func39,Tryz.ntmps39
  go_wp2_with fail
  refine (hS.out _ (HS.out.below (HB0.out _))).mono ?_;rintro e w1 ⟨rfl,hb⟩;have HB1:=Lib.hid (bnext (HB0.out _) hb);clear hb;go_wp2_with fail
  go_ret;exact⟨ret_b HQ2.out.symm,HB1.out⟩
 have HQ2:Hid (areKeysB s l=l.all (fun k=>isKeyB s k.1 k.2)):=by unfold Hid;rw[HQ.out,h1,decide_eq_true (by omega:n≤4),Bool.true_and,Bool.and_true]
 have h4':¬((4:Int)<n):=by omega
 clear hs h hcell hl hb0 h1 HQ h4;go_enter Tryz.func39,Tryz.ntmps39
 go_wp2_with fail
 refine (hS.out _ (HS.out.below (HB0.out _))).mono ?_;rintro e W ⟨rfl,hb⟩;have HBW:=Lib.hid (bnext (HB0.out _) hb);have K0:=Lib.hid (cellk hb (b:=w.heap.size) (o:=0) (v:=.slice sa sn sc) (by simp));clear hb;go_wp2_with fail
 go_loopw [17] (fun iv wr=>∃i:Nat,i≤n∧iv=.int .i64 i∧Below W.heap.size W wr∧Hid (∀(j:Nat) (x:AtomD),j<i→l[j]?=some x→isKeyB s x.1 x.2=true)) (fun iv _=>n-(intOf iv).toNat)
 case atStart=>exact⟨0,by omega,rfl,Below.refl _ _,fun j x hj=>by omega⟩
 case round=>
  obtain⟨i,hi,rfl,hb,HE⟩:=hrel;have HB:=Lib.hid hb;by_cases hlt:i<n
  ·obtain⟨b,off,rfl,hbw,hc⟩:=HC.out (by omega);obtain⟨e,hd⟩:∃e,l[i]?=some e:=⟨l[i]'(by rw[HL.out];exact hlt),List.getElem?_eq_getElem (by rw[HL.out];exact hlt)⟩
   obtain⟨ea,em,ec,c0,c1,hdi,hints⟩:=atomAt (n:=n) hc i e hd;have kk:=cellk (below_alloc wr (.cells #[.int .i64 e.1,.slice ea em ec] 72)) (cellk hb K0.out);have k0:=cellk (bnext HBW.out hb) c0;have k1:=cellk (bnext HBW.out hb) c1;have hi0:(0:Int)≤i:=by omega
   have hi1:(i:Int)<n:=by omega
   have hbx:=Lib.hid (bnext HBW.out (bnext hb (below_alloc wr (.cells #[.int .i64 e.1,.slice ea em ec] 72))));have hcall:=Lib.hid (hK.out _ e.1 (.slice ea em ec) e.2 (HS.out.below hbx.out) (hints.below hbx.out));have HD:=Lib.hid hd;obtain⟨q,hq⟩:∃q,isKeyB s e.1 e.2=q:=⟨_,rfl⟩
   rw[hq] at hcall;have HNO:Hid (q=false→areKeysB s l=false):=fun h=>by rw[HQ2.out];exact allK_no HD.out (by rw[hq,h])
   have HY:Hid (q=true→∀(j:Nat) (x:AtomD),j<i+1→l[j]?=some x→isKeyB s x.1 x.2=true):=fun h j x hj hx=>by
    rcases Nat.lt_or_ge j i with h7|h7
    ·exact HE.out j x h7 hx
    ·obtain rfl:j=i:=by omega
     rw[HD.out] at hx;cases hx;rw[hq,h]
   clear hc hbw hb hd hq hints HE hK HC;go_wp2_with fail
   refine hcall.out.mono ?_;rintro e2 w2 ⟨rfl,hb2⟩;have HB2:=Lib.hid (bnext HB.out (bnext (below_alloc _ _) hb2));clear hb2
   cases q with
   |true=>
    have HE2:=Lib.hid (HY.out rfl);clear HY HNO;go_wp2_with fail
    exact⟨⟨i+1,by omega,by simp,HB2.out,HE2.out⟩,by simp[intOf];omega⟩
   |false=>
    have HX:=Lib.hid (HNO.out rfl);clear HY HNO;go_wp2_with fail
    go_ret;exact⟨ret_b HX.out.symm,bnext HBW.out HB2.out⟩
  ·obtain rfl:i=n:=by omega
   have HX:Hid (areKeysB s l=true):=by unfold Hid;rw[HQ2.out];exact allK_yes (fun j x hx=>HE.out j x (by rw[←HL.out];exact (List.getElem?_eq_some_iff.1 hx).1) hx)
   clear hb;go_wp2_with fail
   go_ret;exact⟨ret_b HX.out.symm,bnext HBW.out HB.out⟩
set_option maxHeartbeats 4000000 in
theorem iAgree_any (w:World) (r1 r2:Int) (va vb vl:Value) (a b l:List Int) (ha:Ints w va a) (hb:Ints w vb b) (hl:Ints w vl l) :
  Calls Tryz.prog 210 #[.agg #[.int .i64 r1,va],.agg #[.int .i64 r2,vb],vl] w (GaveBool w (agreeB a b l)):=by
 obtain⟨pa,na,ca,rfl,hla,hna,hma,hca⟩:=ha.cases;obtain⟨pb,nb,cb,rfl,hlb,hnb,hmb,hcb⟩:=hb.cases;obtain⟨pl,n,cl,rfl,hll,hn,hm,hcl⟩:=hl.cases;unfold maxLen at hma hmb hm;have hb0:∀a b,Below w.heap.size w ((w.alloc a).alloc b):=fun a b=>((Below.refl _ _).alloc (Nat.le_refl _) _).alloc (by simp) _
 have HB0:=Lib.hid hb0;have HCA:=Lib.hid hca;have HCB:=Lib.hid hcb;have HCL:=Lib.hid hcl;have HLA:=Lib.hid hla;have HLB:=Lib.hid hlb;have HLL:=Lib.hid hll;clear ha hb hl hca hcb hcl hla hlb hll hb0;go_enter Tryz.func210,Tryz.ntmps210
 go_wp2_with fail
 obtain⟨W,hW⟩:∃W,W=((w.alloc (.cells #[.int .i64 r1,.slice pa na ca] 127)).alloc (.cells #[.int .i64 r2,.slice pb nb cb] 127)):=⟨_,rfl⟩
 have K0:Hid (W.cell? ⟨w.heap.size,1,none⟩=some (.slice pa na ca)):=Lib.hid (by rw[hW];simp);have K1:Hid (W.cell? ⟨w.heap.size+1,1,none⟩=some (.slice pb nb cb)):=Lib.hid (by rw[hW];simp);have HBW:Hid (Below w.heap.size w W):=Lib.hid (by rw[hW];exact HB0.out _ _);rw[←hW];clear hW
 go_loopw [11] (fun iv wr=>∃i:Nat,i≤n∧iv=.int .i64 i∧Below W.heap.size W wr∧Hid (∀j,j<i→agreeAt a b (l.getD j 0)=true)) (fun iv _=>n-(intOf iv).toNat)
 case atStart=>exact⟨0,by omega,rfl,Below.refl _ _,fun j hj=>by omega⟩
 case round=>
  obtain⟨i,hi,rfl,hb,HE⟩:=hrel;have HB:=Lib.hid (bnext HBW.out hb);have HBL:=Lib.hid hb;by_cases hlt:i<n
  ·obtain⟨bl,ol,rfl,hbw,hc⟩:=HCL.out (by omega);have c1:=cellk HB.out (hc i hlt);have k0:=cell_regrown (w:=wr) (cellk hb K0.out);have k1:=cell_regrown (w:=wr) (cellk hb K1.out);have hi0:(0:Int)≤i:=by omega
   have hi1:(i:Int)<n:=by omega
   have HNO:Hid (agreeAt a b (l.getD i 0)=false→agreeB a b l=false):=fun h=>agree_no i (by rw[HLL.out];exact hlt) h
   have HY:Hid (agreeAt a b (l.getD i 0)=true→∀j,j<i+1→agreeAt a b (l.getD j 0)=true):=fun h j hj=>by
    rcases Nat.lt_or_ge j i with h7|h7
    ·exact HE.out j h7
    ·obtain rfl:j=i:=by omega
     exact h
   generalize l.getD i 0=p at *;clear hc hbw HE;by_cases hp:p<0
   ·have HQ:=Lib.hid (HNO.out (by unfold agreeAt inB;rw[decide_eq_false (by omega)];rfl));clear HNO HY hb;go_wp2_with fail
    refine wp_region_quiet_below (by kernel_rfl) (by kernel_rfl) ?_
    repeat (any_goals (first|go_big_quiet_step (fail)|quiet_step (fail)))
    refine wpQuiet_nil ?_;intro _ hw';obtain⟨⟨dq,osq⟩,hw''⟩:=hw';subst hw'';go_wp2_with fail
    go_ret;exact⟨ret_b HQ.out.symm,bnext HB.out (below_regrown _ _ _)⟩
   ·by_cases h1:p<na
    ·have hA0:0≤p:=by omega
     have hA2:¬((na:Int)≤p):=by omega
     obtain⟨ba,oa,rfl,_,hca⟩:=HCA.out (by omega);have c2:=cell_regrown (w:=wr) (cellk HB.out (hca p.toNat (by omega)))
     have HAT:Hid (agreeAt a b p=(decide (p<(nb:Int))&&decide (a.getD p.toNat 0=b.getD p.toNat 0))):=by
      unfold Hid agreeAt inB;rw[HLA.out,HLB.out,decide_eq_true (by omega:(0:Int)≤p∧p≤(na:Int)-1),Bool.true_and]
     clear hca;by_cases h3:p<nb
     ·obtain⟨bb,ob,rfl,_,hcb⟩:=HCB.out (by omega);have c3:=cell_regrown (w:=wr) (cellk HB.out (hcb p.toNat (by omega)));have hB2:¬((nb:Int)≤p):=by omega
      have HAT2:Hid (agreeAt a b p=decide (a.getD p.toNat 0=b.getD p.toNat 0)):=by unfold Hid;rw[HAT.out,decide_eq_true h3];rfl
      clear hcb HAT hb;generalize a.getD p.toNat 0=x at *;generalize b.getD p.toNat 0=y at *;by_cases h4:x=y
      ·have HE:=Lib.hid (HY.out (by rw[HAT2.out,decide_eq_true h4]));subst h4;have q:(x != x)=false:=by simp
       clear HNO HY HAT2;go_wp2_with fail
       refine wp_region_quiet_below (by kernel_rfl) (by kernel_rfl) ?_
       repeat (any_goals (first|go_big_quiet_step (fail)|quiet_step (fail)))
       refine wpQuiet_nil ?_;intro _ hw';obtain⟨⟨dq,osq⟩,hw''⟩:=hw';subst hw'';go_wp2_with fail
       exact⟨⟨i+1,by omega,by simp,bnext HBL.out (below_regrown _ _ _),HE.out⟩,by simp[intOf];omega⟩
      ·have HQ:=Lib.hid (HNO.out (by rw[HAT2.out,decide_eq_false h4]));have q:(x != y)=true:=bne_iff_ne.2 h4;clear HNO HY HAT2 h4;go_wp2_with fail
       refine wp_region_quiet_below (by kernel_rfl) (by kernel_rfl) ?_
       repeat (any_goals (first|go_big_quiet_step (fail)|quiet_step (fail)))
       refine wpQuiet_nil ?_;intro _ hw';obtain⟨⟨dq,osq⟩,hw''⟩:=hw';subst hw'';go_wp2_with fail
       go_ret;exact⟨ret_b HQ.out.symm,bnext HB.out (below_regrown _ _ _)⟩
     ·have HQ:=Lib.hid (HNO.out (by rw[HAT.out,decide_eq_false (by omega)];rfl));have hB2:(nb:Int)≤p:=by omega
      clear HNO HY HAT hb;go_wp2_with fail
      refine wp_region_quiet_below (by kernel_rfl) (by kernel_rfl) ?_
      repeat (any_goals (first|go_big_quiet_step (fail)|quiet_step (fail)))
      refine wpQuiet_nil ?_;intro _ hw';obtain⟨⟨dq,osq⟩,hw''⟩:=hw';subst hw'';go_wp2_with fail
      go_ret;exact⟨ret_b HQ.out.symm,bnext HB.out (below_regrown _ _ _)⟩
    ·have HQ:=Lib.hid (HNO.out (by unfold agreeAt inB;rw[HLA.out,decide_eq_false (by omega)];rfl));have hA2:(na:Int)≤p:=by omega
     clear HNO HY hb h1;go_wp2_with fail
     refine wp_region_quiet_below (by kernel_rfl) (by kernel_rfl) ?_
     repeat (any_goals (first|go_big_quiet_step (fail)|quiet_step (fail)))
     refine wpQuiet_nil ?_;intro _ hw';obtain⟨⟨dq,osq⟩,hw''⟩:=hw';subst hw'';go_wp2_with fail
     go_ret;exact⟨ret_b HQ.out.symm,bnext HB.out (below_regrown _ _ _)⟩
  ·obtain rfl:i=n:=by omega
   have HQ:=Lib.hid (agree_yes (a:=a) (b:=b) (l:=l) (fun j hj=>HE.out j (by rw[←HLL.out];exact hj)));clear hb;go_wp2_with fail
   go_ret;exact⟨ret_b HQ.out.symm,HB.out⟩
def violF (x y k:AtomD):Bool:=decide (x.1=k.1)&&(decide (y.1=k.1)&&(agreeB x.2 y.2 k.2 && !decide (x=y)))
theorem violF_at {db ks:List AtomD} {n i j:Nat} {k x y:AtomD} (hk:ks[n]?=some k) (hx:db[i]?=some x) (hy:db[j]?=some y):violB db ks n i j=violF x y k:=by
 rw[viol_at hk hx hy];unfold violF;by_cases h1:x.1=k.1
 ·by_cases h2:y.1=k.1
  ·have:decide (x.2=y.2)=decide (x=y):=decide_eq_decide.2 ⟨fun h=>Prod.ext (h1.trans h2.symm) h,fun h=>by rw[h]⟩;rw[this]
  ·rw[decide_eq_false h2];rfl
 ·rw[decide_eq_false h1];rfl
set_option maxHeartbeats 4000000 in
theorem iViolate_any (w:World) (vx vy vk:Value) (x y k:AtomD) (hx:RdAtom w vx x) (hy:RdAtom w vy y) (hk:RdAtom w vk k) :
  Calls Tryz.prog 197 #[vx,vy,vk] w (GaveBool w (violF x y k)):=by
 have HX:=Lib.hid hx;have HY:=Lib.hid hy;have HK:=Lib.hid hk;obtain⟨xa,xn,xc,rfl,hxi,hxl⟩:=hx;obtain⟨ya,yn,yc,rfl,hyi,hyl⟩:=hy;obtain⟨ka,kn,kc,rfl,hki,hkl⟩:=hk;have hb0:∀a b c,Below w.heap.size w (((w.alloc a).alloc b).alloc c):=fun a b c=>(((Below.refl _ _).alloc (Nat.le_refl _) _).alloc (by simp) _).alloc (by simp;omega) _
 have HB0:=Lib.hid hb0;have hA:=Lib.hid (fun w a b c=>iAgree_any w x.1 y.1 (.slice xa xn xc) (.slice ya yn yc) (.slice ka kn kc) x.2 y.2 k.2 a b c);have hS:=Lib.hid (fun w a b=>iSameF_any w (.agg #[.int .i64 x.1,.slice xa xn xc]) (.agg #[.int .i64 y.1,.slice ya yn yc]) x y a b);have HXL:=Lib.hid hxl;have HYL:=Lib.hid hyl;have HKL:=Lib.hid hkl;obtain⟨qa,hqa⟩:∃q,agreeB x.2 y.2 k.2=q:=⟨_,rfl⟩
 obtain⟨qs,hqs⟩:∃q,decide (x=y)=q:=⟨_,rfl⟩
 rw[hqa] at hA;rw[hqs] at hS;have HV:Hid (violF x y k=(decide (x.1=k.1)&&(decide (y.1=k.1)&&(qa && !qs)))):=by unfold Hid violF;rw[hqa,hqs]
 clear hb0 hxl hyl hkl hqa hqs hxi hyi hki;have W3:∃W,W=(((w.alloc (.cells #[.int .i64 x.1,.slice xa xn xc] 127)).alloc (.cells #[.int .i64 y.1,.slice ya yn yc] 127)).alloc (.cells #[.int .i64 k.1,.slice ka kn kc] 72)):=⟨_,rfl⟩
 generalize violF x y k=V at *;by_cases e1:x.1=k.1
 ·by_cases e2:y.1=k.1
  ·have HV3:Hid (V=(qa && !qs)):=by unfold Hid;rw[HV.out,decide_eq_true e1,decide_eq_true e2];rfl
   have q1:(x.1==k.1)=true:=by rw[e1];simp
   have q2:(y.1==k.1)=true:=by rw[e2];simp
   clear e1 e2 HV;generalize x.1=xr at *;generalize y.1=yr at *;generalize k.1=kr at *
   cases qa with
   |false=>
    rw[Bool.false_and] at HV3;clear W3;go_enter Tryz.func197,Tryz.ntmps197
    go_wp2_with fail
    refine (hA.out _ (HXL.out.below (HB0.out _ _ _)) (HYL.out.below (HB0.out _ _ _)) (HKL.out.below (HB0.out _ _ _))).mono ?_;rintro e w1 ⟨rfl,hb⟩;have HB1:=Lib.hid (bnext (HB0.out _ _ _) hb);have x0:=cellk hb (b:=w.heap.size) (o:=0) (v:=.int .i64 xr) (box1 _ _ _ _ _ _ _ rfl);have x1:=cellk hb (b:=w.heap.size) (o:=1) (v:=.slice xa xn xc) (box1 _ _ _ _ _ _ _ rfl);have y0:=cellk hb (b:=w.heap.size+1) (o:=0) (v:=.int .i64 yr) (box2 _ _ _ _ _ _ _ rfl);have y1:=cellk hb (b:=w.heap.size+1) (o:=1) (v:=.slice ya yn yc) (box2 _ _ _ _ _ _ _ rfl);clear hb;go_wp2_with fail
    go_ret;exact⟨ret_b HV3.out.symm,HB1.out⟩
   |true=>
    rw[Bool.true_and] at HV3;clear W3;go_enter Tryz.func197,Tryz.ntmps197
    go_wp2_with fail
    refine (hA.out _ (HXL.out.below (HB0.out _ _ _)) (HYL.out.below (HB0.out _ _ _)) (HKL.out.below (HB0.out _ _ _))).mono ?_;rintro e w1 ⟨rfl,hb⟩;have HB1:=Lib.hid (bnext (HB0.out _ _ _) hb);have x0:=cellk hb (b:=w.heap.size) (o:=0) (v:=.int .i64 xr) (box1 _ _ _ _ _ _ _ rfl);have x1:=cellk hb (b:=w.heap.size) (o:=1) (v:=.slice xa xn xc) (box1 _ _ _ _ _ _ _ rfl);have y0:=cellk hb (b:=w.heap.size+1) (o:=0) (v:=.int .i64 yr) (box2 _ _ _ _ _ _ _ rfl);have y1:=cellk hb (b:=w.heap.size+1) (o:=1) (v:=.slice ya yn yc) (box2 _ _ _ _ _ _ _ rfl);clear hb;go_wp2_with fail
    refine (hS.out _ (HX.out.below HB1.out) (HY.out.below HB1.out)).mono ?_;rintro e w2 ⟨rfl,hb⟩;have HB2:=Lib.hid (bnext HB1.out hb);clear hb;go_wp2_with fail
    go_ret;exact⟨ret_b HV3.out.symm,HB2.out⟩
  ·have HV3:Hid (V=false):=by unfold Hid;rw[HV.out,decide_eq_false e2,Bool.false_and,Bool.and_false]
   have q1:(x.1==k.1)=true:=by rw[e1];simp
   have q2:(y.1==k.1)=false:=beq_eq_false_iff_ne.2 e2;clear e1 e2 HV;generalize x.1=xr at *;generalize y.1=yr at *;generalize k.1=kr at *;clear W3;go_enter Tryz.func197,Tryz.ntmps197
   go_wp2_with fail
   go_ret;exact⟨ret_b HV3.out.symm,HB0.out _ _ _⟩
 ·have HV3:Hid (V=false):=by unfold Hid;rw[HV.out,decide_eq_false e1,Bool.false_and]
  have q1:(x.1==k.1)=false:=beq_eq_false_iff_ne.2 e1;clear e1 HV;generalize x.1=xr at *;generalize y.1=yr at *;generalize k.1=kr at *;clear W3;go_enter Tryz.func197,Tryz.ntmps197
  go_wp2_with fail
  go_ret;exact⟨ret_b HV3.out.symm,HB0.out _ _ _⟩
def CkE (db:List AtomD) (k:AtomD) (n:Int) (v:Value):Prop:=
 (∃i j:Nat,FirstV db [k] 0 i j∧v=.iface 154 (.agg #[.int .i64 n,.int .i64 i,.int .i64 j]))∨((∀i j,i<j→violB db [k] 0 i j=false)∧v=.nilIface)
theorem none_row {db:List AtomD} {k:AtomD} (h:NoneTo db [k] 0 db.length (db.length+1)):∀i j,i<j→violB db [k] 0 i j=false:=fun i j h1=>by
 cases hv:violB db [k] 0 i j with
 |false=>rfl
 |true=>
  have:=viol_in hv;rw[h 0 i j h1 (by omega)] at hv;cases hv
set_option maxRecDepth 100000 in
set_option maxHeartbeats 8000000 in
theorem iCheckKey_any (w:World) (vd vk:Value) (n:Int) (db:List AtomD) (k:AtomD) (hd:RdAtomS w vd db) (hk:RdAtom w vk k) :
  Calls Tryz.prog 166 #[vd,.int .i64 n,vk] w (fun e w'=>∃v,e=.returned v∧CkE db k n v∧Below w.heap.size w w'):=by
 have HKR:=Lib.hid hk;obtain⟨da,dn,dc,rfl,hd⟩:=hd;obtain⟨hdl,hdn,hdm,hdcell⟩:=hd.at
 obtain⟨ka,kn,kc,rfl,hki,hkl⟩:=hk;unfold maxLen at hdm;have hb0:∀a,Below w.heap.size w (w.alloc a):=fun a=>(Below.refl _ _).alloc (Nat.le_refl _) _
 have HB0:=Lib.hid hb0;have HDC:=Lib.hid hdcell;have HDL:=Lib.hid hdl;have hV:=Lib.hid (fun w vx vy x y a b c=>iViolate_any w vx vy (.agg #[.int .i64 k.1,.slice ka kn kc]) x y k a b c);have HKK:Hid ([k][0]?=some k):=rfl;have HI9:=Lib.hid hki;clear hd hdcell hdl hb0 hki hkl;obtain⟨kr,hkr⟩:∃r,k.1=r:=⟨_,rfl⟩
 rw[hkr] at hV HKR;have HKR2:=HKR;rw[hkr];clear hkr;go_enter Tryz.func166,Tryz.ntmps166
 go_wp2_with fail
 obtain⟨W,hW⟩:∃W,W=w.alloc (.cells #[.int .i64 kr,.slice ka kn kc] 72):=⟨_,rfl⟩
 have K0:Hid (W.cell? ⟨w.heap.size,0,none⟩=some (.int .i64 kr)):=Lib.hid (by rw[hW];simp);have K1:Hid (W.cell? ⟨w.heap.size,1,none⟩=some (.slice ka kn kc)):=Lib.hid (by rw[hW];simp);have HBW:Hid (Below w.heap.size w W):=Lib.hid (by rw[hW];exact HB0.out _);rw[←hW];clear hW
 go_loopw [12] (fun iv wr=>∃i:Nat,i≤dn∧iv=.int .i64 i∧Below W.heap.size W wr∧Hid (NoneTo db [k] 0 i (i+1))) (fun iv _=>dn-(intOf iv).toNat)
 case atStart=>exact⟨0,by omega,rfl,Below.refl _ _,none_i0 (none_start db [k])⟩
 case round=>
  obtain⟨wi,hwi⟩:∃x,x=wr:=⟨_,rfl⟩
  subst hwi;obtain⟨i,hi,rfl,hb,HI⟩:=hrel;have HBI:=Lib.hid hb;have HBIw:=Lib.hid (bnext HBW.out hb);clear hb;by_cases hlti:i<dn
  ·obtain⟨b,off,rfl,hdw,hdc⟩:=HDC.out (by omega);obtain⟨x,hxx⟩:∃e,db[i]?=some e:=⟨db[i]'(by rw[HDL.out];exact hlti),List.getElem?_eq_getElem (by rw[HDL.out];exact hlti)⟩
   obtain⟨xa,xm,xc,xc0,xc1,hxi,xints⟩:=atomAt (n:=dn) hdc i x hxx;have x0:=cellk HBIw.out xc0;have x1:=cellk HBIw.out xc1;have HXI:=Lib.hid xints;have HXI0:=Lib.hid hxi;have HXX:=Lib.hid hxx;have HDC2:=Lib.hid hdc;have hi0:(0:Int)≤i:=by omega
   have hi1:(i:Int)<dn:=by omega
   have hwi1:wrap64 ((i:Int)+1)=(i:Int)+1:=by unfold wrap64;omega
   clear hdw hdc xc0 xc1 xints hxx hxi;obtain⟨xr,hxr⟩:∃r,x.1=r:=⟨_,rfl⟩
   rw[hxr] at x0 HXI0;have HXR:=Lib.hid hxr;clear hxr;go_wp2_with fail
   obtain⟨W1,hW1⟩:∃W,W=wi.alloc (.cells #[.int .i64 xr,.slice xa xm xc] 127):=⟨_,rfl⟩
   have X0:Hid (W1.cell? ⟨wi.heap.size,0,none⟩=some (.int .i64 xr)):=Lib.hid (by rw[hW1];simp);have X1:Hid (W1.cell? ⟨wi.heap.size,1,none⟩=some (.slice xa xm xc)):=Lib.hid (by rw[hW1];simp);have HB1:Hid (Below W.heap.size W W1):=Lib.hid (by rw[hW1];exact bnext HBI.out (below_alloc _ _));rw[←hW1];clear hW1 x0 x1
   go_loopw [9] (fun jv wr=>∃j:Nat,i<j∧j≤dn∧jv=.int .i64 j∧Below W1.heap.size W1 wr∧Hid (NoneTo db [k] 0 i j)) (fun jv _=>dn-(intOf jv).toNat)
   case atStart=>exact⟨i+1,by omega,by omega,by simp,Below.refl _ _,HI.out⟩
   case round=>
    obtain⟨wj,hwj⟩:∃x,x=wr:=⟨_,rfl⟩
    subst hwj;obtain⟨j,hij,hj,rfl,hb,HJ⟩:=hrel;have HBj:=Lib.hid hb;have HB:=Lib.hid (bnext HB1.out hb);have HBw:=Lib.hid (bnext HBW.out HB.out);by_cases hltj:j<dn
    ·obtain⟨y,hyy⟩:∃e,db[j]?=some e:=⟨db[j]'(by rw[HDL.out];exact hltj),List.getElem?_eq_getElem (by rw[HDL.out];exact hltj)⟩
     obtain⟨ya,ym,yc,yc0,yc1,hyi,yints⟩:=atomAt (n:=dn) HDC2.out j y hyy;have k0:=cell_regrown (w:=wj) (cellk HB.out K0.out);have k1:=cell_regrown (w:=wj) (cellk HB.out K1.out);have x0:=cell_regrown (w:=wj) (cellk hb X0.out);have x1:=cell_regrown (w:=wj) (cellk hb X1.out);have y0:=cell_regrown (w:=wj) (cellk HBw.out yc0);have y1:=cell_regrown (w:=wj) (cellk HBw.out yc1);have hj0:(0:Int)≤j:=by omega
     have hj1:(j:Int)<dn:=by omega
     have HVV:=Lib.hid (violF_at HKK.out HXX.out hyy);have HBR:=Lib.hid (fun d os=>HBw.out.trans ((below_regrown wj d os).mono HBw.out.size));have hc1:=Lib.hid (fun dn os=>hV.out (grow (redrawn wj dn) os) (.agg #[.int .i64 x.1,.slice xa xm xc]) (.agg #[.int .i64 y.1,.slice ya ym yc]) x y ⟨xa,xm,xc,rfl,by rw[HXR.out];exact HXI0.out,HXI.out.below (HBR.out dn os)⟩ ⟨ya,ym,yc,rfl,hyi,yints.below (HBR.out dn os)⟩ (HKR2.out.below (HBR.out dn os)));rw[HXR.out] at hc1;have HNX:Hid (violB db [k] 0 i j=false→NoneTo db [k] 0 i (j+1)):=fun h=>none_j HJ.out h
     have HFV:Hid (violB db [k] 0 i j=true→FirstV db [k] 0 i j):=fun h=>none_first HJ.out hij h
     obtain⟨q1,hq1⟩:∃q,violF x y k=q:=⟨_,rfl⟩
     rw[hq1] at hc1 HVV;clear hb hyy yc0 yc1 yints HJ HBR hq1 hyi;generalize y.1=yr at *
     cases q1 with
     |false=>
      have HE:=Lib.hid (HNX.out HVV.out);clear HNX HFV HVV;go_wp2_with fail
      refine wp_region_quiet_below (by kernel_rfl) (by kernel_rfl) ?_
      repeat (any_goals (first|go_big_quiet_step ((first|(go_at_call 197;exact Calls.regrown_of (hc1.out _ _))))|quiet_step ((first|(go_at_call 197;exact Calls.regrown_of (hc1.out _ _))))))
      refine wpQuiet_nil ?_;intro _ hw';obtain⟨⟨dq,osq⟩,hw''⟩:=hw';subst hw'';go_wp2_with fail
      exact⟨⟨j+1,by omega,by omega,by simp,bnext HBj.out (below_regrown _ _ _),HE.out⟩,by simp[intOf];omega⟩
     |true=>
      have HE:=Lib.hid (HFV.out HVV.out);clear HNX HFV HVV;go_wp2_with fail
      refine wp_region_quiet_below (by kernel_rfl) (by kernel_rfl) ?_
      repeat (any_goals (first|go_big_quiet_step ((first|(go_at_call 197;exact Calls.regrown_of (hc1.out _ _))))|quiet_step ((first|(go_at_call 197;exact Calls.regrown_of (hc1.out _ _))))))
      refine wpQuiet_nil ?_;intro _ hw';obtain⟨⟨dq,osq⟩,hw''⟩:=hw';subst hw'';go_wp2_with fail
      go_ret;exact⟨_,rfl,.inl ⟨i,j,HE.out,rfl⟩,bnext HBw.out (below_regrown _ _ _)⟩
    ·obtain rfl:j=dn:=by omega
     have HE:Hid (NoneTo db [k] 0 (i+1) (i+1+1)):=none_i (by rw[HDL.out];exact HJ.out);clear hb;go_wp2_with fail
     exact⟨⟨i+1,by omega,by simp,HB.out,HE.out⟩,by simp[intOf];omega⟩
  ·obtain rfl:i=dn:=by omega
   have HE:=Lib.hid (none_row (db:=db) (k:=k) (by rw[HDL.out];exact HI.out));go_wp2_with fail
   go_ret;exact⟨_,rfl,.inr ⟨HE.out,rfl⟩,HBIw.out⟩
end Go.Proofs.YtpedpbbiamhgdaaGreatDoor
namespace Go.Proofs.YtpedpbbiamhgdaaGreatDoor
open Go Go.RowKit Go.Extern.Stop Go.Stop Go.Extern
set_option linter.unusedVariables false
theorem as_nil (t:Value) (w:World) :
  Calls Tryz.prog 135 #[.nilIface,t] w fun e w'=>e=.returned (.bool false)∧w'=w:=by
 go_enter Tryz.func135,Tryz.ntmps135
 go_wp2
 go_ret;exact⟨rfl,rfl⟩
theorem asValueOfP (t:Addr) (w:World):(ReflectliteValue.unpack (.iface 159 (.pointer (some t)))).run Tryz.prog w
  = .ok (.agg #[.pointer (some ⟨1,159,none⟩),.pointer (some ⟨w.heap.size,0,none⟩),.int .u64 150]) (w.alloc (.cells #[.pointer (some t)] 159)):=by kernel_rfl
theorem asTypeP (a:Addr) (w:World):(ReflectliteValue.methodAny (ReflectliteValue.valueError "reflectlite.Value.Type" 0) (fun t _ _ _=>ReflectliteType.toType t) #[.agg #[.pointer (some ⟨1,159,none⟩),.pointer (some a),.int .u64 150]]).run Tryz.prog w
  = .ok (.iface 219 (.agg #[.pointer (some ⟨1,159,none⟩)])) w:=by kernel_rfl
theorem asMethodKind (h:Value) (w:World):(Go.method 382 219 (.agg #[h]) "Kind").run Tryz.prog w=.ok (231,h) w:=by kernel_rfl
theorem asKindP (w:World):((ReflectliteType.abiMethod fun t=>(fun a:Nat=>Value.int IntKind.u8 (a:Int)) <$> Rtype.kind t) #[.pointer (some ⟨1,159,none⟩)]).run Tryz.prog w=.ok (.int .u8 22) w:=by kernel_rfl
theorem asKindV (w:World):((ReflectliteType.abiMethod fun t=>(fun a:Nat=>Value.int IntKind.u8 (a:Int)) <$> Rtype.kind t) #[.pointer (some ⟨1,154,none⟩)]).run Tryz.prog w=.ok (.int .u8 25) w:=by kernel_rfl
theorem rlm (z:Sem Value) (f:TypeId→Addr→Nat→Nat→Sem Value) (v:Value) :
  ReflectliteValue.method z f #[v]=(do match ←ReflectliteValue.parts v with|none=>z|some (t,a,fl)=>f t a fl (fl % 32)):=rfl
theorem asPartsP (a:Addr) (w:World):(ReflectliteValue.parts (.agg #[.pointer (some ⟨1,159,none⟩),.pointer (some a),.int .u64 150])).run Tryz.prog w=.ok (some (159,a,150)) w:=by kernel_rfl
theorem asIsNilP (a p:Addr) (W:World) (ha:W.cell? a=some (.pointer (some p))) :
  (ReflectliteValue.method (ReflectliteValue.valueError "reflectlite.Value.IsNil" 0) ReflectliteValue.isNil #[.agg #[.pointer (some ⟨1,159,none⟩),.pointer (some a),.int .u64 150]]).run Tryz.prog W=.ok (.bool false) W:=by
 rw[rlm];simp only[Sem.run_bind,asPartsP,Result.andThen];simp[ReflectliteValue.isNil,loadVar,isAgg,underlying,Tryz.underlying159,ha,Result.andThen]
theorem asMethodElem (h:Value) (w:World):(Go.method 382 219 (.agg #[h]) "Elem").run Tryz.prog w=.ok (242,.agg #[h]) w:=by kernel_rfl
theorem asMethodImplements (h:Value) (w:World):(Go.method 382 219 (.agg #[h]) "Implements").run Tryz.prog w=.ok (243,.agg #[h]) w:=by kernel_rfl
theorem asMethodAssignable (h:Value) (w:World):(Go.method 382 219 (.agg #[h]) "AssignableTo").run Tryz.prog w=.ok (240,.agg #[h]) w:=by kernel_rfl
theorem asElemP (w:World):(ReflectliteType.method ReflectliteType.elem #[.agg #[.pointer (some ⟨1,159,none⟩)]]).run Tryz.prog w=.ok (.iface 219 (.agg #[.pointer (some ⟨1,154,none⟩)])) w:=by kernel_rfl
theorem asImplementsV (w:World):(ReflectliteType.relation "Implements" ReflectliteType.implements_ #[.agg #[.pointer (some ⟨1,154,none⟩)],.iface 219 (.agg #[.pointer (some ⟨1,157,none⟩)])]).run Tryz.prog w=.ok (.bool true) w:=by kernel_rfl
theorem asTypeOfV (v:Value) (w:World):(ReflectliteType.typeOf #[.iface 154 v]).run Tryz.prog w=.ok (.iface 219 (.agg #[.pointer (some ⟨1,154,none⟩)])) w:=by kernel_rfl
theorem asAssignableV (w:World):(ReflectliteType.relation "AssignableTo" ReflectliteType.assignableTo #[.agg #[.pointer (some ⟨1,154,none⟩)],.iface 219 (.agg #[.pointer (some ⟨1,154,none⟩)])]).run Tryz.prog w=.ok (.bool true) w:=by kernel_rfl
theorem asValueOfV (a b c:Int) (w:World):(ReflectliteValue.unpack (.iface 154 (.agg #[.int .i64 a,.int .i64 b,.int .i64 c]))).run Tryz.prog w
  = .ok (.agg #[.pointer (some ⟨1,154,none⟩),.pointer (some ⟨w.heap.size,0,none⟩),.int .u64 153]) (w.alloc (.cells #[.int .i64 a,.int .i64 b,.int .i64 c] 154)):=by kernel_rfl
theorem asElemOfP (w:World):(Rtype.elem? 159).run Tryz.prog w=.ok (some 154) w:=by kernel_rfl
theorem asMkV (p:Addr) (w:World):(ReflectliteValue.mk 154 p ReflectliteValue.flagAddr).run Tryz.prog w=.ok (.agg #[.pointer (some ⟨1,154,none⟩),.pointer (some p),.int .u64 409]) w:=by kernel_rfl
theorem asElemVP (a p:Addr) (W:World) (ha:W.cell? a=some (.pointer (some p))) :
  (ReflectliteValue.method (ReflectliteValue.valueError "reflectlite.Value.Elem" 0) ReflectliteValue.elem #[.agg #[.pointer (some ⟨1,159,none⟩),.pointer (some a),.int .u64 150]]).run Tryz.prog W
   = .ok (.agg #[.pointer (some ⟨1,154,none⟩),.pointer (some p),.int .u64 409]) W:=by
 rw[rlm];simp only[Sem.run_bind,asPartsP,Result.andThen];simp[ReflectliteValue.elem,loadVar,isAgg,underlying,Tryz.underlying159,ha,Result.andThen,asElemOfP,asMkV]
theorem rls (v x:Value):ReflectliteValue.set #[v,x]=(do
  let (some (dst,a,fl),some (src,b,_)):=(←ReflectliteValue.parts v,←ReflectliteValue.parts x)
   |unsupported (.noEntry "extern/(internal/reflectlite.Value).Set.zeroValue")
  if fl / ReflectliteValue.flagAddr % 2==0 then unsupported (.noEntry "extern/(internal/reflectlite.Value).Set.unaddressable")
  let val ←loadVar src b
  if ←Rtype.directlyAssignable dst src then storeVar dst a val
  else if ←Rtype.implements dst src then
   if (←Rtype.kind src)==20 then
    match val with
    |.nilIface=>unsupported (.noEntry "extern/reflectlite: a nil value of one interface type handed on as a value of another")
    |_=>storeVar dst a val
   else storeVar dst a (.iface src val)
  else panicString ("reflectlite.Set: value of type " ++ (←Rtype.spelt src) ++ " is not assignable to type " ++ (←Rtype.spelt dst))
  pure (.tuple #[])):=rfl
theorem asPartsA (a:Addr) (w:World):(ReflectliteValue.parts (.agg #[.pointer (some ⟨1,154,none⟩),.pointer (some a),.int .u64 409])).run Tryz.prog w=.ok (some (154,a,409)) w:=by kernel_rfl
theorem asPartsV (a:Addr) (w:World):(ReflectliteValue.parts (.agg #[.pointer (some ⟨1,154,none⟩),.pointer (some a),.int .u64 153])).run Tryz.prog w=.ok (some (154,a,153)) w:=by kernel_rfl
theorem asDirect (w:World):(Rtype.directlyAssignable 154 154).run Tryz.prog w=.ok true w:=by kernel_rfl
theorem asAgg (w:World):(isAgg 154).run Tryz.prog w=.ok true w:=by kernel_rfl
theorem asInfo0:(Tryz.prog.info? 154).map (fun i=>i.size)=some 3:=by kernel_rfl
theorem asInfo:∃i,Tryz.prog.info? 154=some i∧i.size=3:=Option.map_eq_some_iff.1 asInfo0
theorem asSet (b g:Nat) (x y z:Int) (W:World) (hb:∀k v,[Value.int .i64 x,.int .i64 y,.int .i64 z][k]?=some v→W.cell? ⟨b,0+k,none⟩=some v) (ht:∀k,k<3→(W.cell? ⟨g,0+k,none⟩).isSome=true) (hf:∀k,k<3→W.frozen? ⟨g,0+k,none⟩=false) :
  (ReflectliteValue.set #[.agg #[.pointer (some ⟨1,154,none⟩),.pointer (some ⟨g,0,none⟩),.int .u64 409],.agg #[.pointer (some ⟨1,154,none⟩),.pointer (some ⟨b,0,none⟩),.int .u64 153]]).run Tryz.prog W
   = .ok (.tuple #[]) (W.setCells g 0 [.int .i64 x,.int .i64 y,.int .i64 z]):=by
 obtain⟨i,hi,hs⟩:=asInfo;have l1:=Go.Lib.rl_loadVar_cells (P:=Tryz.prog) 154 i hi asAgg b 0 [.int .i64 x,.int .i64 y,.int .i64 z] (by rw[hs];rfl) W hb;have s1:=Go.Lib.rl_storeVar_cells (P:=Tryz.prog) 154 i hi g 0 [.int .i64 x,.int .i64 y,.int .i64 z] (by rw[hs];rfl) (fun v hv=>by simp at hv;rcases hv with rfl|rfl|rfl<;>rfl) W ht hf;rw[rls];simp only[Sem.run_bind,asPartsA,asPartsV,Result.andThen];simp[ReflectliteValue.flagAddr,l1,s1,Result.andThen,asDirect]
def asW (w:World) (t:Nat) (x y z:Int):World:=
 (((w.alloc (.cells #[.pointer (some ⟨t,0,none⟩)] 159)).alloc (.cells #[.pointer (some ⟨1,159,none⟩),.pointer (some ⟨w.heap.size,0,none⟩),.int .u64 150] 185)).alloc (.cells #[.pointer (some ⟨1,159,none⟩),.pointer (some ⟨w.heap.size,0,none⟩),.int .u64 150] 185)).alloc (.cells #[.int .i64 x,.int .i64 y,.int .i64 z] 154)
set_option maxHeartbeats 4000000 in
theorem as_hit (t:Nat) (x y z:Int) (w:World) (hg:w.cell? ⟨0,0,none⟩=some (.iface 219 (.agg #[.pointer (some ⟨1,157,none⟩)]))) (ht0:∀k,k<3→(w.cell? ⟨t,0+k,none⟩).isSome=true) (hf0:∀k,k<3→w.frozen? ⟨t,0+k,none⟩=false) :
  Calls Tryz.prog 135 #[.iface 154 (.agg #[.int .i64 x,.int .i64 y,.int .i64 z]),.iface 159 (.pointer (some ⟨t,0,none⟩))] w fun ev w'=>ev=.returned (.bool true)∧w'=(asW w t x y z).setCells t 0 [.int .i64 x,.int .i64 y,.int .i64 z]:=by
 have h6:=@run_callFunc_extern Tryz.prog 162 _ (fun args=>ReflectliteValue.unpack (args.getD 0 (.tuple #[]))) Tryz.func162 (by kernel_rfl) (by kernel_rfl) (by kernel_rfl) (by kernel_rfl);have h7:=@run_callFunc_extern Tryz.prog 163 _ (ReflectliteValue.methodAny (ReflectliteValue.valueError "reflectlite.Value.Type" 0) (fun t _ _ _=>ReflectliteType.toType t)) Tryz.func163 (by kernel_rfl) (by kernel_rfl) (by kernel_rfl) (by kernel_rfl)
 have h8:=@run_callFunc_extern Tryz.prog 164 _ (ReflectliteValue.method (ReflectliteValue.valueError "reflectlite.Value.IsNil" 0) ReflectliteValue.isNil) Tryz.func164 (by kernel_rfl) (by kernel_rfl) (by kernel_rfl) (by kernel_rfl)
 have h27:=@run_callFunc_extern Tryz.prog 231 _ (ReflectliteType.abiMethod fun t=>do pure (.int .u8 (←Rtype.kind t))) Tryz.func231 (by kernel_rfl) (by kernel_rfl) (by kernel_rfl) (by kernel_rfl);have h37:=@run_callFunc_extern Tryz.prog 242 _ (ReflectliteType.method ReflectliteType.elem) Tryz.func242 (by kernel_rfl) (by kernel_rfl) (by kernel_rfl) (by kernel_rfl);have h38:=@run_callFunc_extern Tryz.prog 243 _ (ReflectliteType.relation "Implements" ReflectliteType.implements_) Tryz.func243 (by kernel_rfl) (by kernel_rfl) (by kernel_rfl) (by kernel_rfl)
 have h10:=@run_callFunc_extern Tryz.prog 194 _ ReflectliteType.typeOf Tryz.func194 (by kernel_rfl) (by kernel_rfl) (by kernel_rfl) (by kernel_rfl);have h35:=@run_callFunc_extern Tryz.prog 240 _ (ReflectliteType.relation "AssignableTo" ReflectliteType.assignableTo) Tryz.func240 (by kernel_rfl) (by kernel_rfl) (by kernel_rfl) (by kernel_rfl)
 have h11:=@run_callFunc_extern Tryz.prog 195 _ (ReflectliteValue.method (ReflectliteValue.valueError "reflectlite.Value.Elem" 0) ReflectliteValue.elem) Tryz.func195 (by kernel_rfl) (by kernel_rfl) (by kernel_rfl) (by kernel_rfl)
 have h12:=@run_callFunc_extern Tryz.prog 196 _ ReflectliteValue.set Tryz.func196 (by kernel_rfl) (by kernel_rfl) (by kernel_rfl) (by kernel_rfl);have tO:=asTypeOfV;have mA:=asMethodAssignable;have aV:=asAssignableV;have vV:=asValueOfV x y z;have f6:=asValueOfP;have f7:=asTypeP;have mK:=asMethodKind;have mE:=asMethodElem;have mI:=asMethodImplements;have kP:=asKindP;have kV:=asKindV;have eP:=asElemP;have iV:=asImplementsV
 have htl:t<w.heap.size:=by
  have:=ht0 0 (by omega);rcases Nat.lt_or_ge t w.heap.size with h|h
  ·exact h
  ·simp[World.cell?,Array.getElem?_eq_none h] at this
 have hlt:0<w.heap.size:=World.block_lt_of_cell? w _ hg;have n8:=asIsNilP ⟨w.heap.size,0,none⟩ ⟨t,0,none⟩ ((w.alloc (.cells #[.pointer (some ⟨t,0,none⟩)] 159)).alloc (.cells #[.pointer (some ⟨1,159,none⟩),.pointer (some ⟨w.heap.size,0,none⟩),.int .u64 150] 185)) (by simp)
 have hg2:((w.alloc (.cells #[.pointer (some ⟨t,0,none⟩)] 159)).alloc (.cells #[.pointer (some ⟨1,159,none⟩),.pointer (some ⟨w.heap.size,0,none⟩),.int .u64 150] 185)).cell? ⟨0,0,none⟩=some (.iface 219 (.agg #[.pointer (some ⟨1,157,none⟩)])):=by
  rw[World.cell?_alloc_lt _ _ ⟨0,0,none⟩ (Nat.lt_of_lt_of_le hlt (by simp)),World.cell?_alloc_lt _ _ ⟨0,0,none⟩ hlt];exact hg
 have el:=asElemVP ⟨w.heap.size,0,none⟩ ⟨t,0,none⟩ (((w.alloc (.cells #[.pointer (some ⟨t,0,none⟩)] 159)).alloc (.cells #[.pointer (some ⟨1,159,none⟩),.pointer (some ⟨w.heap.size,0,none⟩),.int .u64 150] 185)).alloc (.cells #[.pointer (some ⟨1,159,none⟩),.pointer (some ⟨w.heap.size,0,none⟩),.int .u64 150] 185)) (by rw[World.cell?_alloc_lt _ _ ⟨w.heap.size,0,none⟩ (by simp;omega)];simp)
 have st:=asSet (w.heap.size+1+1+1) t x y z (asW w t x y z)
  (fun k v h=>by
   unfold asW;rw[World.cell?_alloc_at _ _ _ _ (by simp)]
   match k,h with
   |0,h=>simpa using h
   |1,h=>simpa using h
   |2,h=>simpa using h
   |k+3,h=>simp at h)
  (fun k hk=>by
   unfold asW;rw[World.cell?_alloc_lt _ _ ⟨t,0+k,none⟩ (by simp;omega),World.cell?_alloc_lt _ _ ⟨t,0+k,none⟩ (by simp;omega),World.cell?_alloc_lt _ _ ⟨t,0+k,none⟩ (by simp;omega),World.cell?_alloc_lt _ _ ⟨t,0+k,none⟩ htl];exact ht0 k hk)
  (fun k hk=>by
   unfold asW;rw[World.frozen?_alloc_old _ _ ⟨t,0+k,none⟩ (by simp;omega),World.frozen?_alloc_old _ _ ⟨t,0+k,none⟩ (by simp;omega),World.frozen?_alloc_old _ _ ⟨t,0+k,none⟩ (by simp;omega),World.frozen?_alloc_old _ _ ⟨t,0+k,none⟩ (Nat.ne_of_lt htl)];exact hf0 k hk)
 obtain⟨W4,hW4⟩:∃W,W=asW w t x y z:=⟨_,rfl⟩
 rw[←hW4] at st;rw[←hW4];unfold asW at hW4;rw[hW4] at st;go_enter Tryz.func135,Tryz.ntmps135
 go_wp2
 refine wp_loop_rounds 1 ?_;rw[rounds_succ];go_wp2
 go_ret;exact⟨rfl,by rw[hW4]⟩
end Go.Proofs.YtpedpbbiamhgdaaGreatDoor
namespace Go.Proofs.YtpedpbbiamhgdaaGreatDoor
open Go Go.Sort Go.RowKit
set_option linter.unusedVariables false
def EnvE (w:World):Prop:=w.cell? ⟨0,0,none⟩=some (.iface 219 (.agg #[.pointer (some ⟨1,157,none⟩)]))
theorem EnvE.below {w w':World} (h:EnvE w) (hb:Below w.heap.size w w'):EnvE w':=cellk hb h
def CksE (db ks:List AtomD) (v:Value):Prop:=
 (∃n i j:Nat,FirstV db ks n i j∧v=.iface 154 (.agg #[.int .i64 n,.int .i64 i,.int .i64 j]))∨((∀n i j,i<j→violB db ks n i j=false)∧v=.nilIface)
theorem viol_k {db ks:List AtomD} {n:Nat} {k:AtomD} (h:ks[n]?=some k) (i j:Nat):violB db [k] 0 i j=violB db ks n i j:=by
 unfold violB;rw[h];rfl
theorem first_k {db ks:List AtomD} {n i j:Nat} {k:AtomD} (h:ks[n]?=some k) (hN:NoneTo db ks n 0 0) (hF:FirstV db [k] 0 i j):FirstV db ks n i j:=by
 refine⟨by rw[←viol_k h];exact hF.1,hF.2.1,fun n' i' j' h1 h2=>?_⟩;rcases Nat.lt_or_ge n n' with h3|h3
 ·exact .inl h3
 ·rcases Nat.lt_or_ge n' n with h4|h4
  ·rw[hN n' i' j' h1 (.inl h4)] at h2;cases h2
  ·have e:n=n':=by omega
   subst e;rw[←viol_k h] at h2;rcases hF.2.2 0 i' j' h1 h2 with h5|h5
   ·omega
   ·exact .inr ⟨rfl,h5.2⟩
theorem none_k {db ks:List AtomD} {n:Nat} {k:AtomD} (h:ks[n]?=some k) (hN:NoneTo db ks n 0 0) (hF:∀i j,i<j→violB db [k] 0 i j=false):NoneTo db ks (n+1) 0 0:=fun n' i' j' h1 h2=>by
 rcases Nat.lt_or_ge n' n with h4|h4
 ·exact hN n' i' j' h1 (.inl h4)
 ·have e:n'=n:=by omega
  subst e;rw[←viol_k h];exact hF i' j' h1
theorem none_all2 {db ks:List AtomD} (h:NoneTo db ks ks.length 0 0):∀n i j,i<j→violB db ks n i j=false:=fun n i j h1=>by
 cases hv:violB db ks n i j with
 |false=>rfl
 |true=>
  have:=viol_in hv;rw[h n i j h1 (by omega)] at hv;cases hv
set_option maxRecDepth 100000 in
set_option maxHeartbeats 8000000 in
theorem iCheckKeys_any (w:World) (vd vk:Value) (db ks:List AtomD) (hd:RdAtomS w vd db) (hk:RdAtomS w vk ks) :
  Calls Tryz.prog 136 #[vd,vk] w (fun e w'=>∃v,e=.returned v∧CksE db ks v∧Below w.heap.size w w'):=by
 have HD:=Lib.hid hd;obtain⟨da,dn,dc,rfl,_⟩:=hd;obtain⟨ka,kn,kc,rfl,hk⟩:=hk;obtain⟨hkl,hkn,hkm,hkcell⟩:=hk.at
 unfold maxLen at hkm;have HKC:=Lib.hid hkcell;have HKL:=Lib.hid hkl;have hF:=Lib.hid (fun w vk n k h1 h2=>iCheckKey_any w (.slice da dn dc) vk n db k h1 h2);clear hk hkcell hkl;go_enter Tryz.func136,Tryz.ntmps136
 go_wp2_with fail
 go_loopw [10] (fun iv wr=>∃n:Nat,n≤kn∧iv=.int .i64 n∧Below w.heap.size w wr∧Hid (NoneTo db ks n 0 0)) (fun iv _=>kn-(intOf iv).toNat)
 case atStart=>exact⟨0,by omega,rfl,Below.refl _ _,none_start db ks⟩
 case round=>
  obtain⟨n,hn,rfl,hb,HN⟩:=hrel;have HB:=Lib.hid hb;by_cases hlt:n<kn
  ·obtain⟨b,off,rfl,hbw,hc⟩:=HKC.out (by omega);obtain⟨k,hkk⟩:∃e,ks[n]?=some e:=⟨ks[n]'(by rw[HKL.out];exact hlt),List.getElem?_eq_getElem (by rw[HKL.out];exact hlt)⟩
   obtain⟨ea,em,ec,c0,c1,hki,hints⟩:=atomAt (n:=kn) hc n k hkk;have k0:=cellk hb c0;have k1:=cellk hb c1;have hn0:(0:Int)≤n:=by omega
   have hn1:(n:Int)<kn:=by omega
   have hbx:=Lib.hid (bnext hb (below_alloc wr (.cells #[.int .i64 k.1,.slice ea em ec] 72)));have hcall:=Lib.hid (hF.out _ (.agg #[.int .i64 k.1,.slice ea em ec]) n k (RdAtomS.below HD.out hbx.out) ⟨ea,em,ec,rfl,hki,hints.below hbx.out⟩);have HKK:=Lib.hid hkk;clear hc hbw hb hints hki c0 c1 hkk;go_wp2_with fail
   refine hcall.out.mono ?_;rintro e2 w2 ⟨v,rfl,hce,hb2⟩;have HB2:=Lib.hid (bnext hbx.out hb2);have hh:=hce;clear hb2 hce hcall k0 k1;rcases hh with⟨i,j,h1,rfl⟩|⟨h1,rfl⟩
   ·have HX:=Lib.hid (first_k HKK.out HN.out h1);clear h1;go_wp2_with fail
    go_ret;exact⟨_,rfl,.inl ⟨n,i,j,HX.out,rfl⟩,HB2.out⟩
   ·have HX:=Lib.hid (none_k HKK.out HN.out h1);clear h1;go_wp2_with fail
    exact⟨⟨n+1,by omega,by simp,HB2.out,HX.out⟩,by simp[intOf];omega⟩
  ·obtain rfl:n=kn:=by omega
   have HX:=Lib.hid (none_all2 (db:=db) (ks:=ks) (by rw[HKL.out];exact HN.out));clear hb;go_wp2_with fail
   go_ret;exact⟨_,rfl,.inr ⟨HX.out,rfl⟩,HB.out⟩
theorem setCells3 {w0 w:World} {g:Nat} {x y z:Value} (h:Below w0.heap.size w0 w) (hg:w0.heap.size≤g):Below w0.heap.size w0 (w.setCells g 0 [x,y,z]):=by
 unfold World.setCells World.setCells World.setCells World.setCells;exact ((h.setCell hg _).setCell hg _).setCell hg _
theorem asW_below (w:World) (t:Nat) (x y z:Int):Below w.heap.size w (asW w t x y z):=by
 unfold asW;exact ((((Below.refl _ _).alloc (Nat.le_refl _) _).alloc (by simp) _).alloc (by simp;omega) _).alloc (by simp;omega) _
set_option maxRecDepth 100000 in
set_option maxHeartbeats 8000000 in
theorem iFirstV_any (w:World) (vd vk:Value) (db ks:List AtomD) (he:EnvE w) (hd:RdAtomS w vd db) (hk:RdAtomS w vk ks) :
  Calls Tryz.prog 85 #[vd,vk] w (GaveV (.tuple #[.int .i64 (fvN db ks).1,.int .i64 (fvN db ks).2.1,.int .i64 (fvN db ks).2.2]) w):=by
 have HD:=Lib.hid hd;have HK:=Lib.hid hk;obtain⟨da,dn,dc,rfl,_⟩:=hd;obtain⟨ka,kn,kc,rfl,_⟩:=hk;have HE:=Lib.hid he;have hb0:=below_alloc w (.cells #[.int .i64 0,.int .i64 0,.int .i64 0] 154);have HB0:=Lib.hid hb0;have hF:=Lib.hid (iCheckKeys_any (w.alloc (.cells #[.int .i64 0,.int .i64 0,.int .i64 0] 154)) (.slice da dn dc) (.slice ka kn kc) db ks (RdAtomS.below HD.out hb0) (RdAtomS.below HK.out hb0));have hNil:=Lib.hid (fun w=>as_nil (.iface 159 (.pointer (some ⟨w,0,none⟩))));clear hb0 he;go_enter Tryz.func85,Tryz.ntmps85
 go_wp2_with fail
 refine hF.out.mono ?_;rintro e w1 ⟨v,rfl,hce,hb⟩;have HB1:=Lib.hid (bnext HB0.out hb);have HE1:=Lib.hid (HE.out.below HB1.out);have kc0:=cellk hb (b:=w.heap.size) (o:=0) (v:=.int .i64 0) (by simp);have kc1:=cellk hb (b:=w.heap.size) (o:=1) (v:=.int .i64 0) (by simp);have kc2:=cellk hb (b:=w.heap.size) (o:=2) (v:=.int .i64 0) (by simp);have kf0:w1.frozen? ⟨w.heap.size,0,none⟩=false:=frok hb (v:=.int .i64 0) (by simp) (by simp);have kf1:w1.frozen? ⟨w.heap.size,1,none⟩=false:=frok hb (v:=.int .i64 0) (by simp) (by simp);have kf2:w1.frozen? ⟨w.heap.size,2,none⟩=false:=frok hb (v:=.int .i64 0) (by simp) (by simp);have hlt:=World.block_lt_of_cell? w1 _ kc0;clear hb hF;rcases hce with⟨n,i,j,h1,rfl⟩|⟨h1,rfl⟩
 ·have HX:=Lib.hid (fv_at h1);clear h1
  have hAs:=Lib.hid (as_hit w.heap.size n i j w1 HE1.out
   (fun k hk=>by
    rw[Nat.zero_add]
    match k,hk with
    |0,_=>rw[kc0];rfl
    |1,_=>rw[kc1];rfl
    |2,_=>rw[kc2];rfl)
   (fun k hk=>by
    rw[Nat.zero_add]
    match k,hk with
    |0,_=>exact kf0
    |1,_=>exact kf1
    |2,_=>exact kf2))
  have hbA:=asW_below w1 w.heap.size n i j;have HBA:=Lib.hid (bnext HB1.out hbA)
  have hin:=World.cell?_setCells_in w.heap.size [Value.int .i64 n,.int .i64 i,.int .i64 j] 0 (asW w1 w.heap.size n i j) (fun k hk=>by
    rw[Nat.zero_add]
    match k,hk with
    |0,_=>rw[cellk hbA kc0];rfl
    |1,_=>rw[cellk hbA kc1];rfl
    |2,_=>rw[cellk hbA kc2];rfl)
  have r0:=hin 0 (by simp);have r1:=hin 1 (by simp);have r2:=hin 2 (by simp);rw[Nat.zero_add] at r0 r1 r2;simp only[List.getElem_cons_zero,List.getElem_cons_succ] at r0 r1 r2;have HBF:=Lib.hid (setCells3 (g:=w.heap.size) (x:=.int .i64 n) (y:=.int .i64 i) (z:=.int .i64 j) HBA.out (Nat.le_refl _));obtain⟨WF,hWF⟩:∃W,W=(asW w1 w.heap.size n i j).setCells w.heap.size 0 [Value.int .i64 n,.int .i64 i,.int .i64 j]:=⟨_,rfl⟩
  rw[←hWF] at r0 r1 r2 HBF hAs;have x0:=cell_regrown (w:=WF) r0;have x1:=cell_regrown (w:=WF) r1;have x2:=cell_regrown (w:=WF) r2;clear kc0 kc1 kc2 kf0 kf1 kf2 hin r0 r1 r2 hbA hWF hNil;go_wp2_with fail
  refine hAs.out.mono ?_;rintro e w3 ⟨rfl,rfl⟩;go_wp2_with fail
  refine wp_region_quiet_below (by kernel_rfl) (by kernel_rfl) ?_
  repeat (any_goals (first|go_big_quiet_step (fail)|quiet_step (fail)))
  refine wpQuiet_nil ?_;intro _ hw';obtain⟨⟨dq,osq⟩,hw''⟩:=hw';subst hw'';go_wp2_with fail
  exact bodyPost_ret (v:=.tuple #[.int .i64 n,.int .i64 i,.int .i64 j]) (by simp[results,Tryz.results85,go_sem]) rfl ⟨by rw[HX.out],bnext HBF.out (below_regrown _ _ _)⟩
 ·have HX:=Lib.hid (fv_none h1);clear h1 kc0 kc1 kc2 kf0 kf1 kf2;go_wp2_with fail
  refine (hNil.out _ _).mono ?_;rintro e w3 ⟨rfl,rfl⟩;go_wp2_with fail
  exact bodyPost_ret (v:=.tuple #[.int .i64 (-1),.int .i64 (-1),.int .i64 (-1)]) (by simp[results,Tryz.results85,go_sem]) rfl ⟨by rw[HX.out],HB1.out⟩
end Go.Proofs.YtpedpbbiamhgdaaGreatDoor
