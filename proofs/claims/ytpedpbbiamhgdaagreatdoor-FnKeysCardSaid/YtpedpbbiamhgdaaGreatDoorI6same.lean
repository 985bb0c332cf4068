import Derived.Test.YtpedpbbiamhgdaaGreatDoorI6srt
import Derived.OwnWalk
namespace Go.Proofs.YtpedpbbiamhgdaaGreatDoor
open Go Go.Sort Go.RowKit Go.Shelf
set_option linter.unusedVariables false
theorem infoII:(Tryz.prog.info? 24).map (fun i=>(i.zero,i.size,i.bytes))=some (some (.slice none 0 0),1,24):=by kernel_rfl
theorem RdIntSS.cells {w:World} {b off n c:Nat} {l:List (List Int)} (hl:l.length=n) (hc:∀(j:Nat) (d:List Int),l[j]?=some d→∃cs,cs.length=1∧(∀i,i<1→w.cell? ⟨b,off+(j*1+i),none⟩=cs[i]?)∧CsInts w cs d) :
  ∃cs:List Value,RdEls w cs l∧∀(j:Nat) (u:Value),cs[j]?=some u→w.cell? ⟨b,off+j,none⟩=some u:=by
 have key:∀m,m≤l.length→∃cs:List Value,cs.length=m∧∀j,j<m→∃(a:Option Addr) (n c:Nat),cs[j]?=some (Value.slice a n c)∧w.cell? ⟨b,off+j,none⟩=some (Value.slice a n c)∧∀d,l[j]?=some d→Ints w (Value.slice a n c) d:=by
  intro m
  induction m with
  |zero=>intro _;exact⟨[],rfl,fun j hj=>by omega⟩
  |succ m ih=>
   intro hm;obtain⟨cs,h1,h2⟩:=ih (by omega);obtain⟨a,k,c,e1,e2⟩:=intsAt (n:=n) hc m (l[m]'(by omega)) (List.getElem?_eq_getElem (by omega));refine⟨cs++[.slice a k c],by simp[h1],fun j hj=>?_⟩;rcases Nat.lt_or_ge j m with h3|h3
   ·obtain⟨a',k',c',e5,e6,e7⟩:=h2 j h3;exact⟨a',k',c',by rw[List.getElem?_append_left (by omega)];exact e5,e6,e7⟩
   ·obtain rfl:j=m:=by omega
    refine⟨a,k,c,by rw[List.getElem?_append_right (by omega),h1];simp,e1,fun d hd=>?_⟩;rw[List.getElem?_eq_getElem (by omega)] at hd
    cases hd;exact e2
 obtain⟨cs,h1,h2⟩:=key l.length (Nat.le_refl _);refine⟨cs,⟨h1,fun j d hd=>?_⟩,fun j u hu=>?_⟩
 ·obtain⟨a,k,c,e5,e6,e7⟩:=h2 j (List.getElem?_eq_some_iff.1 hd).1;exact⟨a,k,c,e5,e7 d hd⟩
 ·have hj:=(List.getElem?_eq_some_iff.1 hu).1;obtain⟨a,k,c,e5,e6,e7⟩:=h2 j (by omega);rw[e5] at hu;cases hu;exact e6
theorem RdEls.one {w0:World} {cs:List Value} {l:List (List Int)} (h:RdEls w0 cs l):∀u∈cs,u.oneCell'=true:=by
 intro u hu;obtain⟨i,hi⟩:=List.mem_iff_getElem?.1 hu;have hil:=(List.getElem?_eq_some_iff.1 hi).1;obtain⟨a,n,c,e1,_⟩:=h.2 i _ (List.getElem?_eq_getElem (by have:=h.1;omega));rw[hi] at e1;cases e1;simp[Value.oneCell']
set_option maxHeartbeats 2000000 in
theorem iClone6_any (w:World) (v:Value) (l:List (List Int)) (h:RdIntSS w v l) (hz:l.length≤1048576) :
  Calls Tryz.prog 117 #[v] w (fun e w'=>(e=.returned (.slice none 0 0)∧l=[]∧w'=w)∨∃g cap cs,e=.returned (.slice (some ⟨g,0,none⟩) l.length cap)∧BuiltC 24 1 w w' (.slice (some ⟨g,0,none⟩) l.length cap) l.length cs∧RdEls w cs l):=by
 obtain⟨a,n,c,rfl,h⟩:=h;obtain⟨hl,hn,hm,hcell⟩:=h.at
 have q:∀(w:World) (a:Option Addr) (n c n' c':Nat),(binOp .eql 44 (.slice a n c) (.slice none n' c')).run Tryz.prog w=.ok (.bool a.isNone) w:=fun w a n c n' c'=>Lib.run_eql_slice_nil w _ _ a n c n' c' Tryz.underlying44
 cases a with
 |none=>
  have hl0:l=[]:=by
   rcases Nat.eq_zero_or_pos n with h0|h0
   ·exact List.eq_nil_of_length_eq_zero (by omega)
   ·obtain⟨b,off,e,_⟩:=hcell h0;cases e
  have HL:=Lib.hid hl0;clear h hl hn hm hcell hl0 hz;go_enter Tryz.func117,Tryz.ntmps117
  go_wp2_with fail
  go_ret;exact .inl ⟨rfl,HL.out,rfl⟩
 |some ad=>
  have hcs:∃cs:List Value,RdEls w cs l∧∀(j:Nat) (u:Value),cs[j]?=some u→w.cell? (ad.add j)=some u:=by
   rcases Nat.eq_zero_or_pos n with h0|h0
   ·have:l=[]:=List.eq_nil_of_length_eq_zero (by omega);subst this;exact⟨[],⟨rfl,fun j d hd=>by simp at hd⟩,fun j u hu=>by simp at hu⟩
   ·obtain⟨b,off,e,_,hc⟩:=hcell h0
    cases e;obtain⟨cs,h1,h2⟩:=RdIntSS.cells (c:=c) hl hc;exact⟨cs,h1,fun j u hu=>by rw[Addr.add_lit];exact h2 j u hu⟩
  obtain⟨cs,hR,hcc⟩:=hcs;have HR:=Lib.hid hR;have HCC:=Lib.hid hcc;have HL:=Lib.hid hl;have hln:=hR.1;obtain⟨i0,hi,hz0,hz1,hz2⟩:=info_parts infoII;have HB0:Hid (Below w.heap.size w (w.alloc (.cells #[] 24))):=below_alloc w _;clear h hl hn hm hcell hR hcc;go_enter Tryz.func117,Tryz.ntmps117
  go_wp2_with (at_builtin;refine wpList_append_own _ rfl _ _ 44 rfl w.heap.size 24 i0 (.slice none 0 0) 1 24 Tryz.underlying44 hi hz0 hz1 hz2 rfl (by decide) _ _ _ rfl (World.ownsRow_made w #[] 0 (Nat.le_refl _) (Nat.zero_le _) (by simp)) ad n c cs rfl ?qc1 ?qc2 ?qc3 ?qc4 ?qc5 ?qc6 ?_)
  case qc1=>rw[HR.out.1,HL.out];omega
  case qc2=>
   intro j u hj;have:=HCC.out j u hj;exact Lib.cell?_alloc_some _ this
  case qc3=>exact HR.out.one
  case qc4=>have:=HL.out;unfold maxLen;omega
  case qc5=>have:=HL.out;omega
  case qc6=>simp
  intro v' w1 hown hgrow hnil;have HO:=Lib.hid hown;have HG:=Lib.hid hgrow;have HN:=Lib.hid hnil;clear hown hgrow hnil;go_wp2_with fail
  go_ret;have hb1:BuiltC 24 1 w w1 v' n cs:=⟨by simpa using HO.out,HB0.out.grown HG.out (by simp) (by intro k hk;simp[Value.ownBlock] at hk;omega)⟩;rcases hb1.form with⟨e,_⟩|⟨g,cap,rfl,_,_⟩
  ·exact absurd e HN.out
  ·have hln2:=HL.out;subst hln2;exact .inr ⟨g,cap,cs,rfl,hb1,HR.out⟩
set_option maxHeartbeats 1000000 in
theorem iComp6_nil (w:World):Calls Tryz.prog 120 #[.slice none 0 0,.func (.func 58) #[] #[]] w (fun e w'=>e=.returned (.slice none 0 0)∧w'=w):=by
 go_enter Tryz.func120,Tryz.ntmps120
 go_wp2_with fail
 go_ret;exact⟨rfl,rfl⟩
theorem iSort6_nil (w:World):Calls Tryz.prog 118 #[.slice none 0 0,.func (.func 119) #[] #[]] w (fun e w'=>e=.returned (.tuple #[])∧w'=w):=by
 have hS:=AnyF.slices_SortFunc_none (P:=Tryz.prog) (ρ:=Tryz.laysSlF6_f118_ren) { Tryz.laysSlF6_f118 with } none 0 (.func (.func 119) #[] #[]) w
 change Calls Tryz.prog 118 _ _ _ at hS
 exact hS
set_option maxHeartbeats 2000000 in
theorem iDiff6_any (w:World) (v:Value) (l:List (List Int)) (h:RdIntSS w v l) (hz:l.length≤1048576) :
  Calls Tryz.prog 57 #[v] w (fun e w'=>∃a n c,e=.returned (.slice a n c)∧RdIntSS w' (.slice a n c) (sortL l true)∧Below w.heap.size w w'):=by
 have hC:=Lib.hid (iClone6_any w v l h hz);have hN:=Lib.hid (fun w=>iSort6_nil w);have hN2:=Lib.hid (fun w=>iComp6_nil w);obtain⟨a,n,c,rfl,h⟩:=h;clear h;go_enter Tryz.func57,Tryz.ntmps57
 go_wp2_with fail
 refine hC.out.mono ?_;rintro e w1 (⟨rfl,hl,rfl⟩|⟨g,cap,cs,rfl,hB,hR⟩)
 ·have HL:=Lib.hid hl;clear hl;go_wp2_with fail
  refine (hN.out _).mono ?_;rintro e w2 ⟨rfl,rfl⟩;go_wp2_with fail
  refine (hN2.out _).mono ?_;rintro e w3 ⟨rfl,rfl⟩;go_wp2_with fail
  go_ret;exact⟨_,_,_,rfl,by rw[HL.out];exact RdIntSS.nil _,Below.refl _ _⟩
 ·have hlt:=hB.lt
  have hS:=Lib.hid (iSort6_gen (fun (x:List Int)=>x) (fun v b=>∃a n c,v=Value.slice a n c∧Ints w v b) 24 w w1 g l.length cap cs l hB rfl
   (fun j b hb=>by obtain⟨a,n,c,e1,e2⟩:=hR.2 j b hb;exact⟨_,e1,a,n,c,rfl,e2⟩)
   (fun v b hv=>by obtain⟨a,n,c,rfl,_⟩:=hv;rfl)
   (fun v b hv W' ho=>by obtain⟨a,n,c,rfl,h5⟩:=hv;exact h5.below (OnlyAt.below hB.2 ho (by simp;exact hlt.1))) (by omega))
  clear hB hR hlt;generalize hnn:l.length=nn at *;have HN:=Lib.hid hnn;clear hnn;go_wp2_with fail
  refine hS.out.mono ?_;rintro e w2 ⟨rfl,cs',bl',hB2,hp,hasc,hel,ho⟩;have hbl:bl'.length=nn:=by rw[hp.length_eq];exact HN.out
  have hR2:RdEls w cs' bl':=⟨by rw[hB2.len,hbl];omega,fun j d hd=>by
   obtain⟨v,e1,a,n,c,rfl,e2⟩:=hel j d hd;exact⟨a,n,c,e1,e2⟩⟩
  have hK:=Lib.hid (iComp6_any w w2 g nn cap cs' bl' hB2 hR2)
  have HS:Hid (compTo bl' nn=sortL l true):=by
   unfold Hid;rw[←hbl];exact compTo_sort (by simpa using hasc) hp
  clear hB2 hp hasc hel ho hR2 hbl;go_wp2_with fail
  refine hK.out.mono ?_;rintro e w3 ⟨m,cs3,rfl,hB3,hR3⟩;have HB3:=Lib.hid hB3;have HR3:=Lib.hid hR3;clear hB3 hR3;go_wp2_with fail
  go_ret;exact⟨_,_,_,rfl,by rw[←HS.out];exact rdOfEls HB3.out HR3.out,HB3.out.2⟩
set_option maxHeartbeats 2000000 in
theorem iSameTuplesL_any (w:World) (v v':Value) (l l':List (List Int)) (h:RdIntSS w v l) (h':RdIntSS w v' l') (hz:l.length≤1048576) (hz':l'.length≤1048576) :
  Calls Tryz.prog 21 #[v,v'] w (GaveBool w (decide (sortL l true=sortL l' true))):=by
 have hS:=Lib.hid (fun w h=>iDiff6_any w v l h hz);have hS':=Lib.hid (fun w h=>iDiff6_any w v' l' h hz');have hE:=Lib.hid (fun w v v' l l' h h'=>iEqFunc6_any w v v' l l' h h');have H:=Lib.hid h;have H':=Lib.hid h';obtain⟨a,n,c,rfl,h⟩:=h;obtain⟨a',n',c',rfl,h'⟩:=h';generalize sortL l true=X at *;generalize sortL l' true=Y at *;clear h h' hz hz';go_enter Tryz.func21,Tryz.ntmps21
 go_wp2_with fail
 refine (hS.out _ H.out).mono ?_;rintro e w1 ⟨pa,pn,pc,rfl,hr1,hb1⟩;have H1:=Lib.hid hr1;have H2:=Lib.hid (H'.out.below hb1);have HB1:=Lib.hid hb1;clear hr1 hb1;go_wp2_with fail
 refine (hS'.out _ H2.out).mono ?_;rintro e w2 ⟨qa,qn,qc,rfl,hr2,hb2⟩;have R1:=Lib.hid (H1.out.below hb2);have R2:=Lib.hid hr2;have HB2:=Lib.hid (bnext HB1.out hb2);clear hr2 hb2;go_wp2_with fail
 refine (hE.out _ _ _ _ _ R1.out R2.out).mono ?_;rintro e w3 ⟨rfl,hb3⟩;have HB3:=Lib.hid (bnext HB2.out hb3);clear hb3;go_wp2_with fail
 go_ret;exact⟨rfl,HB3.out⟩
end Go.Proofs.YtpedpbbiamhgdaaGreatDoor
