import Derived.Test.YtpedpbbiamhgdaaGreatDoorDk12
import Derived.Test.YtpedpbbiamhgdaaGreatDoorPairAll
import Derived.Test.YtpedpbbiamhgdaaGreatDoorI13x
import Derived.Test.YtpedpbbiamhgdaaGreatDoorS13x
import Derived.Test.YtpedpbbiamhgdaaGreatDoorM8v
import Derived.Test.YtpedpbbiamhgdaaGreatDoorS12
import Derived.Laws.AppendOwnNone
import Derived.Deep.RegionHeld3
namespace Go.Proofs.YtpedpbbiamhgdaaGreatDoor
open Go Go.Sort Go.RowKit
set_option linter.unusedVariables false
set_option linter.unusedSimpArgs false
theorem Q7.only13 {rs ra rb fs fa fb:Nat} {w w':World} {x0 x1 x2 x3 x4 sv hA bA hB bB:Value} {ds:List Nat} (h:Q7 rs ra rb fs fa fb w x0 x1 x2 x3 x4 sv hA bA hB bB) (ko:OnlyAt ds w w') (hn:∀b∈ds,b≠rs∧b≠ra∧b≠rb∧b≠fs∧b≠fa∧b≠fb):Q7 rs ra rb fs fa fb w' x0 x1 x2 x3 x4 sv hA bA hB bB:=by
 have n1:rs∉ds:=fun hm=>(hn _ hm).1 rfl
 have n2:ra∉ds:=fun hm=>(hn _ hm).2.1 rfl
 have n3:rb∉ds:=fun hm=>(hn _ hm).2.2.1 rfl
 have n4:fs∉ds:=fun hm=>(hn _ hm).2.2.2.1 rfl
 have n5:fa∉ds:=fun hm=>(hn _ hm).2.2.2.2.1 rfl
 have n6:fb∉ds:=fun hm=>(hn _ hm).2.2.2.2.2 rfl
 have lt:∀{b o:Nat} {v:Value},w.cell? ⟨b,o,none⟩=some v→b<w.heap.size:=fun hc=>World.block_lt_of_cell? w _ hc
 exact⟨ko.cell n1 h.rs0,ko.cell n2 h.ra0,ko.cell n2 h.ra1,ko.cell n3 h.rb0,ko.cell n3 h.rb1,ko.cell n4 h.s0,ko.cell n5 h.a0,ko.cell n5 h.a1,ko.cell n6 h.b0,ko.cell n6 h.b1,
  ko.frozen (lt h.rs0) n1 h.rf0,ko.frozen (lt h.ra0) n2 h.rf1,ko.frozen (lt h.ra1) n2 h.rf2,ko.frozen (lt h.rb0) n3 h.rf3,ko.frozen (lt h.rb1) n3 h.rf4⟩
def DrewPK (w:World) (e:Ending) (w':World):Prop:=
 ∃sv s h1 b1 d1 h2 b2 d2 kv ks,e=.returned (.tuple #[.agg #[sv],.agg #[h1,b1],.agg #[h2,b2],kv])∧OwI w.heap.size w' sv s∧s.length≤5∧NearQ w.heap.size w' h1 b1 d1∧QBd 3 4 d1∧NearQ w.heap.size w' h2 b2 d2∧QBd 3 4 d2∧DKs w.heap.size w' kv ks∧ks.length≤3∧(∀x∈ks,x.2.length≤3)∧Below w.heap.size w w'
def DrewPKF (w:World) (e:Ending) (w':World):Prop:=
 ∃sv s q1 d1 q2 d2 kv ks,e=.returned (.tuple #[sv,q1,q2,kv])∧RdSchema w' sv s∧s.length≤5∧RdQuery w' q1 d1∧QBd 3 4 d1∧RdQuery w' q2 d2∧QBd 3 4 d2∧RdAtomS w' kv ks∧ks.length≤3∧(∀x∈ks,x.2.length≤3)∧Below w.heap.size w w'
set_option maxRecDepth 100000 in
set_option maxHeartbeats 16000000 in
theorem l13Draw_any (w:World) (S:Value) (len:Nat) (h:Arg w S len) :
  Calls Tryz.prog 37 #[S] w (DrewPK w):=by
 have hnw:=Lib.hid (fun w h=>l1New_any w S len h);have hpr:=Lib.hid (fun w cb h=>l7Pair_any w S len cb h);have hsf:=Lib.hid (fun w base xv s h=>l4Safe_any w base xv s h);have hks:=Lib.hid (fun w cb base sv s h hv hc hs=>l12Keys_any w S len cb base sv s h hv hc hs);have hon:=Lib.hid (fun cb n w h h0 h1=>l1Once_any n w S len cb h h0 h1);have han:=Lib.hid (fun w cb base sv s h hv hc=>l12Any_any w S len cb base sv s h hv hc);obtain⟨wA,hwA⟩:∃wA,wA=(((w.alloc (.cells #[.slice none 0 0] 26)).alloc (.cells #[.slice none 0 0,.slice none 0 0] 29)).alloc (.cells #[.slice none 0 0,.slice none 0 0] 29)):=⟨_,rfl⟩
 have hs3:wA.heap.size=w.heap.size+3:=by rw[hwA];simp
 have HBA:Hid (Below w.heap.size w wA):=by rw[hwA];exact Lib.hid ((((Below.refl _ _).alloc (Nat.le_refl _) _).alloc (by simp) _).alloc (by simp;omega) _)
 have HA:=Lib.hid (h.below HBA.out);have K1:Hid (wA.cell? ⟨w.heap.size,0,none⟩=some (.slice none 0 0)):=by unfold Hid;rw[hwA];exact box1 w _ _ _ _ 0 _ rfl
 have K2:Hid (wA.cell? ⟨w.heap.size+1,0,none⟩=some (.slice none 0 0)∧wA.cell? ⟨w.heap.size+1,1,none⟩=some (.slice none 0 0)):=by unfold Hid;rw[hwA];exact⟨box2 w _ _ _ _ 0 _ rfl,box2 w _ _ _ _ 1 _ rfl⟩
 have K3:Hid (wA.cell? ⟨w.heap.size+1+1,0,none⟩=some (.slice none 0 0)∧wA.cell? ⟨w.heap.size+1+1,1,none⟩=some (.slice none 0 0)):=by unfold Hid;rw[hwA];exact⟨box3 w _ _ _ _ 0 _ rfl,box3 w _ _ _ _ 1 _ rfl⟩
 have F1:Hid (wA.frozen? ⟨w.heap.size,0,none⟩=false):=by unfold Hid;rw[hwA];exact frz1_7 _ _ _ _ _ 0 _ rfl
 have F2:Hid (wA.frozen? ⟨w.heap.size+1,0,none⟩=false∧wA.frozen? ⟨w.heap.size+1,1,none⟩=false):=by unfold Hid;rw[hwA];exact⟨frzN _ _ _ _ 0 _ rfl,frzN _ _ _ _ 1 _ rfl⟩
 have F3:Hid (wA.frozen? ⟨w.heap.size+1+1,0,none⟩=false∧wA.frozen? ⟨w.heap.size+1+1,1,none⟩=false):=by unfold Hid;rw[hwA];exact⟨frz3N _ _ _ _ _ 0,frz3N _ _ _ _ _ 1⟩
 clear h;go_enter Tryz.func37,Tryz.ntmps37
 go_wp2_with fail
 rw[←hwA];obtain⟨rs,hrs⟩:∃x,x=w.heap.size:=⟨_,rfl⟩
 obtain⟨ra,hra⟩:∃x,x=w.heap.size+1:=⟨_,rfl⟩
 obtain⟨rb,hrb⟩:∃x,x=w.heap.size+1+1:=⟨_,rfl⟩
 rw[←hrb] at K3 F3;rw[←hra] at K2 F2;rw[←hrs] at K1 F1;simp only[←hrb];simp only[←hra];simp only[←hrs];have hlo1:w.heap.size≤rs:=by omega
 have hlo2:w.heap.size≤ra:=by omega
 have hlo3:w.heap.size≤rb:=by omega
 have hhi1:rs<wA.heap.size:=by omega
 have hhi2:ra<wA.heap.size:=by omega
 have hhi3:rb<wA.heap.size:=by omega
 have n1:rs≠ra:=by omega
 have n2:rs≠rb:=by omega
 have n3:ra≠rb:=by omega
 clear hrs hra hrb hwA hs3;refine (hnw.out _ HA.out).mono ?_;rintro e w1 ⟨cb,hcb,rfl,hst,hb1⟩;have HST:=Lib.hid hst;have HB1:=Lib.hid (bnext HBA.out hb1);have HB01:=Lib.hid hb1;have hs1:=hb1.size;have hcb1:=hst.cb_lt;clear hst hb1;go_wp2_with fail
 refine (hpr.out w1 cb HST.out).mono ?_;rintro e w2 ⟨sv,s,h1,b1,d1,h2,b2,d2,rfl,hox,hs5,hq1,hd1,hq2,hd2,hd⟩;obtain⟨xa,xn,xc,rfl⟩:=hox.ints.shape;obtain⟨aa,an,ac,ba,bn,bc,rfl,rfl⟩:=(NearP.ofN (P:=fun _=>True) hq1 (fun _ _ _=>trivial)).shape;obtain⟨ya,yn,yc,za,zn,zc,rfl,rfl⟩:=(NearP.ofN (P:=fun _=>True) hq2 (fun _ _ _=>trivial)).shape;have hs2:=hd.size;have HB2:=Lib.hid (DSt.belowN HB1.out hd (by omega));have HQD1:=Lib.hid hd1;have HQD2:=Lib.hid hd2;have HS5:=Lib.hid hs5;have HXB:Hid (∀b∈blk (.slice xa xn xc),b<w2.heap.size):=fun b hb=>(hox.lo b hb).2
 obtain⟨w3,hw3⟩:∃w3,w3=(((w2.alloc (.cells #[.slice xa xn xc] 26)).alloc (.cells #[.slice aa an ac,.slice ba bn bc] 29)).alloc (.cells #[.slice ya yn yc,.slice za zn zc] 29)):=⟨_,rfl⟩
 have hbb:Below w2.heap.size w2 w3:=by rw[hw3];exact (((Below.refl _ _).alloc (Nat.le_refl _) _).alloc (by simp) _).alloc (by simp;omega) _
 have hw3s:=hbb.size;have hw3z:w3.heap.size=w2.heap.size+3:=by rw[hw3];simp
 have HN1:Hid (NearP (fun b=>w1.heap.size≤b∧b<w2.heap.size) w3 (.slice aa an ac) (.slice ba bn bc) d1):=Lib.hid ((NearP.ofN hq1 (fun b h1 h2=>⟨h1,h2⟩)).only (OnlyAt.ofBelow [] hbb) (fun b hm=>by simp at hm));have HN2:Hid (NearP (fun b=>w1.heap.size≤b∧b<w2.heap.size) w3 (.slice ya yn yc) (.slice za zn zc) d2):=Lib.hid ((NearP.ofN hq2 (fun b h1 h2=>⟨h1,h2⟩)).only (OnlyAt.ofBelow [] hbb) (fun b hm=>by simp at hm));have HX3:=Lib.hid (hox.below hbb);have ho12:OnlyAt [cb] wA w3:=((OnlyAt.ofBelow [cb] HB01.out).same hd.2.1).same (OnlyAt.ofBelow [cb] hbb);have c1:rs∉[cb]:=by simp;omega
 have c2:ra∉[cb]:=by simp;omega
 have c3:rb∉[cb]:=by simp;omega
 obtain⟨fs,hfs⟩:∃r,r=w2.heap.size:=⟨_,rfl⟩
 obtain⟨fa,hfa⟩:∃r,r=w2.heap.size+1:=⟨_,rfl⟩
 obtain⟨fb,hfb⟩:∃r,r=w2.heap.size+1+1:=⟨_,rfl⟩
 have HQ7:Hid (Q7 rs ra rb fs fa fb w3 (.slice none 0 0) (.slice none 0 0) (.slice none 0 0) (.slice none 0 0) (.slice none 0 0) (.slice xa xn xc) (.slice aa an ac) (.slice ba bn bc) (.slice ya yn yc) (.slice za zn zc)):=by
  refine Lib.hid ⟨ho12.cell c1 K1.out,ho12.cell c2 K2.out.1,ho12.cell c2 K2.out.2,ho12.cell c3 K3.out.1,ho12.cell c3 K3.out.2,?_,?_,?_,?_,?_,ho12.frozen (by omega) c1 F1.out,ho12.frozen (by omega) c2 F2.out.1,ho12.frozen (by omega) c2 F2.out.2,ho12.frozen (by omega) c3 F3.out.1,ho12.frozen (by omega) c3 F3.out.2⟩
  ·rw[hw3,hfs];exact box1 w2 _ _ _ _ 0 _ rfl
  ·rw[hw3,hfa];exact box2 w2 _ _ _ _ 0 _ rfl
  ·rw[hw3,hfa];exact box2 w2 _ _ _ _ 1 _ rfl
  ·rw[hw3,hfb];exact box3 w2 _ _ _ _ 0 _ rfl
  ·rw[hw3,hfb];exact box3 w2 _ _ _ _ 1 _ rfl
 have hdif:Dif7 rs ra rb fs fa fb:=⟨n1,n2,n3,⟨by omega,by omega,by omega⟩,⟨by omega,by omega,by omega⟩,⟨by omega,by omega,by omega⟩⟩;have HD3:=Lib.hid (((DSt.start HST.out).trans hd).below hbb);have HB3:=Lib.hid (bnext HB2.out hbb);have HW3:=Lib.hid hw3;have HFS:=Lib.hid hfs;have HFA:=Lib.hid hfa;have HFB:=Lib.hid hfb;have hfl:cb<fs∧fs<w3.heap.size∧fa<w3.heap.size∧fb<w3.heap.size:=by omega
 have hfl2:w2.heap.size≤fs∧w2.heap.size≤fa∧w2.heap.size≤fb:=by omega
 have e0:=HQ7.out.s0;clear hox hq1 hq2 hd1 hd2 hs5 hd hbb ho12 c1 c2 c3 hw3 hfs hfa hfb;go_upto_region 3 with fail
 rw[←HFB.out,←HFA.out,←HFS.out,←HW3.out];go_wp2_with fail
 refine (hsf.out w3 w1.heap.size _ s HX3.out).mono ?_;rintro e w4 ⟨tv,z,rfl,hoz,hz1,hb4⟩;have HD4:=Lib.hid (HD3.out.below hb4);have HB4:=Lib.hid (bnext HB3.out hb4);have HP4:=Lib.hid (HQ7.out.below hb4);have HX4:=Lib.hid (HX3.out.below hb4);have HN14:Hid (NearP (fun b=>w1.heap.size≤b∧b<w2.heap.size) w4 (.slice aa an ac) (.slice ba bn bc) d1):=Lib.hid (HN1.out.only (OnlyAt.ofBelow [] hb4) (fun b hm=>by simp at hm));have HN24:Hid (NearP (fun b=>w1.heap.size≤b∧b<w2.heap.size) w4 (.slice ya yn yc) (.slice za zn zc) d2):=Lib.hid (HN2.out.only (OnlyAt.ofBelow [] hb4) (fun b hm=>by simp at hm));have HOZ:=Lib.hid hoz;have HZ1:=Lib.hid hz1;have hs4:=hb4.size;clear hb4 hoz hz1 e0 HQ7 HX3 HN1 HN2 HD3 HB3;go_wp2_with fail
 refine (hks.out w4 cb w1.heap.size _ z HD4.out.st HOZ.out hcb1 HZ1.out).mono ?_;rintro e w5 ⟨kv,ks,rfl,hdk,hk2,hk3,hd5⟩;have HD5:=Lib.hid (HD4.out.trans hd5);have HK5:=Lib.hid hdk;have hs5:=hd5.size;have HB5:=Lib.hid (DSt.belowN HB4.out hd5 (by omega));have HP5:=Lib.hid (HP4.out.only13 hd5.2.1 (fun b hb=>by simp at hb;omega));have HX5:=Lib.hid (HX4.out.draw hcb1 hd5);have HN15:Hid (NearP (fun b=>w1.heap.size≤b∧b<w2.heap.size) w5 (.slice aa an ac) (.slice ba bn bc) d1):=Lib.hid (HN14.out.only hd5.2.1 (fun b hb hm=>by simp at hb;have:=hm.1;omega));have HN25:Hid (NearP (fun b=>w1.heap.size≤b∧b<w2.heap.size) w5 (.slice ya yn yc) (.slice za zn zc) d2):=Lib.hid (HN24.out.only hd5.2.1 (fun b hb hm=>by simp at hb;have:=hm.1;omega));have HK3:=Lib.hid hk3;clear hdk hd5 hk3 HP4 HX4 HN14 HN24 HD4 HB4 HOZ HZ1;go_wp2_with fail
 refine (hon.out cb 14 w5 HD5.out.st (by omega) (by omega)).mono ?_;rintro e w6 ⟨bo,rfl,hcur,hg⟩;have hd6:=(DSt.start HD5.out.st).draw hcur hg;have hs6:=hd6.size;have HD6:=Lib.hid (HD5.out.draw hcur hg);have HB6:=Lib.hid (DSt.belowN HB5.out hd6 (by omega));have HP6:=Lib.hid (HP5.out.only13 hd6.2.1 (fun b hb=>by simp at hb;omega));have HX6:=Lib.hid (HX5.out.draw hcb1 hd6);have HN16:Hid (NearP (fun b=>w1.heap.size≤b∧b<w2.heap.size) w6 (.slice aa an ac) (.slice ba bn bc) d1):=Lib.hid (HN15.out.only hd6.2.1 (fun b hb hm=>by simp at hb;have:=hm.1;omega));have HN26:Hid (NearP (fun b=>w1.heap.size≤b∧b<w2.heap.size) w6 (.slice ya yn yc) (.slice za zn zc) d2):=Lib.hid (HN25.out.only hd6.2.1 (fun b hb hm=>by simp at hb;have:=hm.1;omega));have HK6:=Lib.hid (HK5.out.draw (by omega) hd6);clear hcur hg hd6 HD5 HB5 HP5 HX5 HN15 HN25 HK5
 cases bo with
 |false=>
  have HPz:=HP6;have HXz:=HX6;have HN1z:=HN16;have HN2z:=HN26;have HKz:=HK6;have HBz:=HB6;have HKL:Hid (ks.length≤3∧∀x∈ks,x.2.length≤3):=⟨by omega,fun x hx=>by have:=HK3.out x hx;omega⟩;clear HW3 HFS HFA HFB
  have HEND:Hid (∀wE,OnlyAt [rs,ra,rb] w6.drew wE→DrewPK w (.returned (.tuple #[.agg #[.slice xa xn xc],.agg #[.slice aa an ac,.slice ba bn bc],.agg #[.slice ya yn yc,.slice za zn zc],kv])) wE):=Lib.hid (fun wf k0=>by
   have k:OnlyAt [rs,ra,rb] w6 wf:=(OnlyAt.ofBelow [rs,ra,rb] ((Below.refl w6.heap.size w6).drew)).same k0;have hlo:∀b∈[rs,ra,rb],b<w1.heap.size:=fun b hb=>by simp at hb;omega
   have hks:=k.size;exact⟨_,s,_,_,d1,_,_,d2,_,_,rfl,(HXz.out.only k (fun b hb hm=>by have:=(HXz.out.lo b hb).1;have:=hlo b hm;omega)).mono (by omega),HS5.out,(HN1z.out.only k (fun b hb hm=>by have:=hlo b hb;have:=hm.1;omega)).toN (fun b hb=>by have:=hb.1;omega) (by omega),HQD1.out,(HN2z.out.only k (fun b hb hm=>by have:=hlo b hb;have:=hm.1;omega)).toN (fun b hb=>by have:=hb.1;omega) (by omega),HQD2.out,HKz.out.only (by omega) k (fun b hb=>by have:=hlo b hb;omega),HKL.out.1,HKL.out.2,OnlyAt.below HBz.out k (fun b hm=>by simp at hm;omega)⟩)
  obtain⟨wd,hwd⟩:∃x,x=w6.drew:=⟨_,rfl⟩
  have hq:=HPz.out.below (Below.refl w6.heap.size w6).drew;have hko:OnlyAt [rs,ra,rb] w6.drew w6.drew:=OnlyAt.refl _ _;rw[←hwd] at hq hko HEND;clear HPz HXz HN1z HN2z HKz HBz HKL;go_wp2_with fail
  refine wp_region_noPanic ?_;refine wp_region_held_drew (S:=(fun w'=>w'.cell? ⟨fs,0,none⟩=some (.slice xa xn xc)∧w'.cell? ⟨fa,0,none⟩=some (.slice aa an ac)∧w'.cell? ⟨fa,1,none⟩=some (.slice ba bn bc)∧w'.cell? ⟨fb,0,none⟩=some (.slice ya yn yc)∧w'.cell? ⟨fb,1,none⟩=some (.slice za zn zc))) (by kernel_rfl) ?_ (fun hHeld=>?_)
  ·(try dsimp only)
   rw[←hwd];exact⟨hq.s0,hq.a0,hq.a1,hq.b0,hq.b1⟩
  refine wpAnyH_take (i:=0) (oi:=_) (v:=?_) rfl (by kernel_rfl) (by kernel_rfl) (by kernel_rfl) (fun _ _ _ h=>h) (Or.inl ⟨by rfl,?_⟩) (by assumption) ?_;rotate_left
  ·(intro w hSw;(try dsimp only at hSw);go_simp<;>with_reducible rfl)
  (try simp only[Act.put,List.setIfInBounds_toArray,List.set_cons_zero,List.set_cons_succ])
  refine wpAnyH_take (i:=1) (oi:=_) (v:=?_) rfl (by kernel_rfl) (by kernel_rfl) (by kernel_rfl) (fun _ _ _ h=>h) (Or.inl ⟨by rfl,?_⟩) (by assumption) ?_;rotate_left
  ·(intro w hSw;(try dsimp only at hSw);go_simp<;>with_reducible rfl)
  (try simp only[Act.put,List.setIfInBounds_toArray,List.set_cons_zero,List.set_cons_succ])
  refine wpAnyH_take (i:=2) (oi:=_) (v:=?_) rfl (by kernel_rfl) (by kernel_rfl) (by kernel_rfl) (fun _ _ _ h=>h) (Or.inl ⟨by rfl,?_⟩) (by assumption) ?_;rotate_left
  ·(intro w hSw;(try dsimp only at hSw);go_simp<;>with_reducible rfl)
  (try simp only[Act.put,List.setIfInBounds_toArray,List.set_cons_zero,List.set_cons_succ])
  refine wpAnyH_take (i:=3) (oi:=_) (v:=?_) rfl (by kernel_rfl) (by kernel_rfl) (by kernel_rfl) (fun _ _ _ h=>h) (Or.inl ⟨by rfl,?_⟩) (by assumption) ?_;rotate_left
  ·(intro w hSw;(try dsimp only at hSw);go_simp<;>with_reducible rfl)
  (try simp only[Act.put,List.setIfInBounds_toArray,List.set_cons_zero,List.set_cons_succ])
  clear hHeld;rw[←hwd];clear hwd;refine wpAnyH_ready (rs:=[4]) (by kernel_rfl) (by simp) ?_;refine AllReadyH.cons (o:=_) rfl (fun K hK=>?_) ?_
  ·obtain⟨e0,e1,e2,e3,e4,_,_,_,_,_,f0,f1,f2,f3,f4⟩:=id hq
   go_simp
   obtain⟨ws1,hw⟩:∃x,x=(wd.setCell ⟨rs,0,none⟩ (.slice xa xn xc)):=⟨_,rfl⟩
   have hq1:=hq.setRs hdif (.slice xa xn xc);have hko1:OnlyAt [rs,ra,rb] wd (wd.setCell ⟨rs,0,none⟩ (.slice xa xn xc)):=hko.same ((OnlyAt.setCell _ _ _ _).wider (by simp));rw[←hw] at hq1 hko1 ⊢;clear hw e0 e1 e2 e3 e4 f0 f1 f2 f3 f4;refine hK.out _ _ ?_ (fun hHeld=>?_)
   ·(try dsimp only)
    exact⟨hq1.s0,hq1.a0,hq1.a1,hq1.b0,hq1.b1⟩
   clear hK K hHeld
   (try simp only[Act.put,List.setIfInBounds_toArray,List.set_cons_zero,List.set_cons_succ])
   refine wpAnyH_ready (rs:=[5]) (by kernel_rfl) (by simp) ?_;refine AllReadyH.cons (o:=_) rfl (fun K hK=>?_) ?_
   ·obtain⟨e0,e1,e2,e3,e4,_,_,_,_,_,f0,f1,f2,f3,f4⟩:=id hq1
    go_simp
    obtain⟨ws2,hw⟩:∃x,x=((ws1.setCell ⟨ra,0,none⟩ (.slice aa an ac)).setCell ⟨ra,1,none⟩ (.slice ba bn bc)):=⟨_,rfl⟩
    have hq2:=hq1.setRa hdif (.slice aa an ac) (.slice ba bn bc);have hko2:OnlyAt [rs,ra,rb] wd ((ws1.setCell ⟨ra,0,none⟩ (.slice aa an ac)).setCell ⟨ra,1,none⟩ (.slice ba bn bc)):=hko1.same (((OnlyAt.setCell _ _ _ _).same (OnlyAt.setCell _ _ _ _)).wider (by simp));rw[←hw] at hq2 hko2 ⊢;clear hw e0 e1 e2 e3 e4 f0 f1 f2 f3 f4;refine hK.out _ _ ?_ (fun hHeld=>?_)
    ·(try dsimp only)
     exact⟨hq2.s0,hq2.a0,hq2.a1,hq2.b0,hq2.b1⟩
    clear hK K hHeld
    (try simp only[Act.put,List.setIfInBounds_toArray,List.set_cons_zero,List.set_cons_succ])
    refine wpAnyH_ready (rs:=[6]) (by kernel_rfl) (by simp) ?_;refine AllReadyH.cons (o:=_) rfl (fun K hK=>?_) ?_
    ·obtain⟨e0,e1,e2,e3,e4,_,_,_,_,_,f0,f1,f2,f3,f4⟩:=id hq2
     go_simp
     obtain⟨ws3,hw⟩:∃x,x=((ws2.setCell ⟨rb,0,none⟩ (.slice ya yn yc)).setCell ⟨rb,1,none⟩ (.slice za zn zc)):=⟨_,rfl⟩
     have hq3:=hq2.setRb hdif (.slice ya yn yc) (.slice za zn zc);have hko3:OnlyAt [rs,ra,rb] wd ((ws2.setCell ⟨rb,0,none⟩ (.slice ya yn yc)).setCell ⟨rb,1,none⟩ (.slice za zn zc)):=hko2.same (((OnlyAt.setCell _ _ _ _).same (OnlyAt.setCell _ _ _ _)).wider (by simp));rw[←hw] at hq3 hko3 ⊢;clear hw e0 e1 e2 e3 e4 f0 f1 f2 f3 f4;refine hK.out _ _ ?_ (fun hHeld=>?_)
     ·(try dsimp only)
      exact⟨hq3.s0,hq3.a0,hq3.a1,hq3.b0,hq3.b1⟩
     clear hK K hHeld
     (try simp only[Act.put,List.setIfInBounds_toArray,List.set_cons_zero,List.set_cons_succ])
     refine wpAnyH_ready (rs:=[7]) (by kernel_rfl) (by simp) ?_;refine AllReadyH.cons (o:=_) rfl (fun K hK=>?_) ?_
     ·go_simp
      refine hK.out _ _ ?_ (fun hHeld=>?_)
      ·(try dsimp only)
       exact⟨hq3.s0,hq3.a0,hq3.a1,hq3.b0,hq3.b1⟩
      clear hK K hHeld
      (try simp only[Act.put,List.setIfInBounds_toArray,List.set_cons_zero,List.set_cons_succ])
      refine wpAnyH_done (by kernel_rfl) ?_ _;refine NoPanic.normal ?_;go_wp2_with fail
      exact bodyPost_ret (v:=.tuple #[.agg #[.slice xa xn xc],.agg #[.slice aa an ac,.slice ba bn bc],.agg #[.slice ya yn yc,.slice za zn zc],kv]) (by simp[results,Tryz.results37,go_sem,hq3.rs0,hq3.ra0,hq3.ra1,hq3.rb0,hq3.rb1]) rfl (HEND.out _ hko3)
     exact AllReadyH.nil
    exact AllReadyH.nil
   exact AllReadyH.nil
  exact AllReadyH.nil
 |true=>
  have e0:=HP6.out.s0;go_wp2_with fail
  refine (han.out w6 cb w1.heap.size _ s HD6.out.st HX6.out hcb1).mono ?_;rintro e w7 ⟨r,tv2,fl,rfl,hri,how,hl1,hl3,hd⟩;obtain⟨ta,tc,rfl⟩:=how.shape;obtain⟨fn,hfn⟩:∃n,fl.length=n:=⟨_,rfl⟩
  have HFN:=Lib.hid hfn;rw[hfn] at how hl1 hl3 ⊢;obtain⟨w8,hw8⟩:∃x,x=w7:=⟨_,rfl⟩
  subst hw8;have hba:Below w8.heap.size w8 w8:=Below.refl _ _;obtain⟨W,bss,cs,hW,ho,hc1,hc2,hbk1,hbk2,hbk3⟩:=HK6.out.ready (by omega) (hd.below hba);have HO:=Lib.hid ho;have HC1:=Lib.hid hc1;have HC2:=Lib.hid hc2;have HOY:=Lib.hid (how.below hba);have hd8:=hd.below hba;have hs8:=hd8.size;have HP8:=Lib.hid (HP6.out.only13 hd8.2.1 (fun b hb=>by simp at hb;omega));have HX8:=Lib.hid (HX6.out.draw hcb1 hd8);have HN18:Hid (NearP (fun b=>w1.heap.size≤b∧b<w2.heap.size) w8 (.slice aa an ac) (.slice ba bn bc) d1):=Lib.hid (HN16.out.only hd8.2.1 (fun b hb hm=>by simp at hb;have:=hm.1;omega));have HN28:Hid (NearP (fun b=>w1.heap.size≤b∧b<w2.heap.size) w8 (.slice ya yn yc) (.slice za zn zc) d2):=Lib.hid (HN26.out.only hd8.2.1 (fun b hb hm=>by simp at hb;have:=hm.1;omega));have HB8:=Lib.hid (DSt.belowN HB6.out hd8 (by omega));clear how hd hd8 hba ho hc1 hc2 hfn e0 HP6 HX6 HN16 HN26 HB6 HK6;clear HW3 HFS HFA HFB;go_wp2_with (at_builtin;refine wpList_app1D rfl (.tmp 25) (.tmp 29) 30 rfl 72 (.agg #[.int .i64 0,.slice none 0 0]) 2 32 Tryz.underlying30 info_Key (by decide) (by decide) (by rfl) kv ks.length cs rfl HC1.out [.int .i64 r,.slice ta fn tc] rfl (by simp[Value.oneCell']) (by first|rfl|(simp;rfl)) (by omega) ?_)
  intro v' w9 hown' ko hbl9;have HK9:=Lib.hid (DKs.app (base:=w6.heap.size) HO.out HC1.out HC2.out HOY.out (fun b hb=>(hbk1 b hb).2) hbk2 hri hown' ko (fun b hb=>(hbl9 b hb).imp id (fun h=>by simpa using h)) (by omega));rw[hW] at HK9;have hs9:=ko.size;have HPz:=Lib.hid (HP8.out.only13 ko (fun b hb=>by have:=(hbk1 b hb).1;omega));have HXz:=Lib.hid (HX8.out.only ko (fun b hb hm=>by have:=HXB.out b hb;have:=(hbk1 b hm).1;omega));have HN1z:Hid (NearP (fun b=>w1.heap.size≤b∧b<w2.heap.size) w9 (.slice aa an ac) (.slice ba bn bc) d1):=Lib.hid (HN18.out.only ko (fun b hb hm=>by have:=(hbk1 b hb).1;have:=hm.2;omega));have HN2z:Hid (NearP (fun b=>w1.heap.size≤b∧b<w2.heap.size) w9 (.slice ya yn yc) (.slice za zn zc) d2):=Lib.hid (HN28.out.only ko (fun b hb hm=>by have:=(hbk1 b hb).1;have:=hm.2;omega));have HKz:=HK9;have HBz:=Lib.hid (OnlyAt.below HB8.out ko (fun b hb=>by have:=(hbk1 b hb).1;omega))
  have HKL:Hid ((ks++[(r,fl)]).length≤3∧∀x∈ks++[(r,fl)],x.2.length≤3):=by
   refine⟨by simp;omega,fun x hx=>?_⟩;rcases List.mem_append.1 hx with h|h
   ·have:=HK3.out x h;omega
   ·simp at h;rw[h];show fl.length≤3;rw[HFN.out];omega
  clear hown' ko hbl9 HO HC1 HC2 HOY HP8 HX8 HN18 HN28 HB8 HK9
  have HEND:Hid (∀wE,OnlyAt [rs,ra,rb] w9.drew wE→DrewPK w (.returned (.tuple #[.agg #[.slice xa xn xc],.agg #[.slice aa an ac,.slice ba bn bc],.agg #[.slice ya yn yc,.slice za zn zc],v'])) wE):=Lib.hid (fun wf k0=>by
   have k:OnlyAt [rs,ra,rb] w9 wf:=(OnlyAt.ofBelow [rs,ra,rb] ((Below.refl w9.heap.size w9).drew)).same k0;have hlo:∀b∈[rs,ra,rb],b<w1.heap.size:=fun b hb=>by simp at hb;omega
   have hks:=k.size;exact⟨_,s,_,_,d1,_,_,d2,_,_,rfl,(HXz.out.only k (fun b hb hm=>by have:=(HXz.out.lo b hb).1;have:=hlo b hm;omega)).mono (by omega),HS5.out,(HN1z.out.only k (fun b hb hm=>by have:=hlo b hb;have:=hm.1;omega)).toN (fun b hb=>by have:=hb.1;omega) (by omega),HQD1.out,(HN2z.out.only k (fun b hb hm=>by have:=hlo b hb;have:=hm.1;omega)).toN (fun b hb=>by have:=hb.1;omega) (by omega),HQD2.out,HKz.out.only (by omega) k (fun b hb=>by have:=hlo b hb;omega),HKL.out.1,HKL.out.2,OnlyAt.below HBz.out k (fun b hm=>by simp at hm;omega)⟩)
  obtain⟨wd,hwd⟩:∃x,x=w9.drew:=⟨_,rfl⟩
  have hq:=HPz.out.below (Below.refl w9.heap.size w9).drew;have hko:OnlyAt [rs,ra,rb] w9.drew w9.drew:=OnlyAt.refl _ _;rw[←hwd] at hq hko HEND;clear HPz HXz HN1z HN2z HKz HBz HKL;go_wp2_with fail
  refine wp_region_noPanic ?_;refine wp_region_held_drew (S:=(fun w'=>w'.cell? ⟨fs,0,none⟩=some (.slice xa xn xc)∧w'.cell? ⟨fa,0,none⟩=some (.slice aa an ac)∧w'.cell? ⟨fa,1,none⟩=some (.slice ba bn bc)∧w'.cell? ⟨fb,0,none⟩=some (.slice ya yn yc)∧w'.cell? ⟨fb,1,none⟩=some (.slice za zn zc))) (by kernel_rfl) ?_ (fun hHeld=>?_)
  ·(try dsimp only)
   rw[←hwd];exact⟨hq.s0,hq.a0,hq.a1,hq.b0,hq.b1⟩
  refine wpAnyH_take (i:=0) (oi:=_) (v:=?_) rfl (by kernel_rfl) (by kernel_rfl) (by kernel_rfl) (fun _ _ _ h=>h) (Or.inl ⟨by rfl,?_⟩) (by assumption) ?_;rotate_left
  ·(intro w hSw;(try dsimp only at hSw);go_simp<;>with_reducible rfl)
  (try simp only[Act.put,List.setIfInBounds_toArray,List.set_cons_zero,List.set_cons_succ])
  refine wpAnyH_take (i:=1) (oi:=_) (v:=?_) rfl (by kernel_rfl) (by kernel_rfl) (by kernel_rfl) (fun _ _ _ h=>h) (Or.inl ⟨by rfl,?_⟩) (by assumption) ?_;rotate_left
  ·(intro w hSw;(try dsimp only at hSw);go_simp<;>with_reducible rfl)
  (try simp only[Act.put,List.setIfInBounds_toArray,List.set_cons_zero,List.set_cons_succ])
  refine wpAnyH_take (i:=2) (oi:=_) (v:=?_) rfl (by kernel_rfl) (by kernel_rfl) (by kernel_rfl) (fun _ _ _ h=>h) (Or.inl ⟨by rfl,?_⟩) (by assumption) ?_;rotate_left
  ·(intro w hSw;(try dsimp only at hSw);go_simp<;>with_reducible rfl)
  (try simp only[Act.put,List.setIfInBounds_toArray,List.set_cons_zero,List.set_cons_succ])
  refine wpAnyH_take (i:=3) (oi:=_) (v:=?_) rfl (by kernel_rfl) (by kernel_rfl) (by kernel_rfl) (fun _ _ _ h=>h) (Or.inl ⟨by rfl,?_⟩) (by assumption) ?_;rotate_left
  ·(intro w hSw;(try dsimp only at hSw);go_simp<;>with_reducible rfl)
  (try simp only[Act.put,List.setIfInBounds_toArray,List.set_cons_zero,List.set_cons_succ])
  clear hHeld;rw[←hwd];clear hwd;refine wpAnyH_ready (rs:=[4]) (by kernel_rfl) (by simp) ?_;refine AllReadyH.cons (o:=_) rfl (fun K hK=>?_) ?_
  ·obtain⟨e0,e1,e2,e3,e4,_,_,_,_,_,f0,f1,f2,f3,f4⟩:=id hq
   go_simp
   obtain⟨ws1,hw⟩:∃x,x=(wd.setCell ⟨rs,0,none⟩ (.slice xa xn xc)):=⟨_,rfl⟩
   have hq1:=hq.setRs hdif (.slice xa xn xc);have hko1:OnlyAt [rs,ra,rb] wd (wd.setCell ⟨rs,0,none⟩ (.slice xa xn xc)):=hko.same ((OnlyAt.setCell _ _ _ _).wider (by simp));rw[←hw] at hq1 hko1 ⊢;clear hw e0 e1 e2 e3 e4 f0 f1 f2 f3 f4;refine hK.out _ _ ?_ (fun hHeld=>?_)
   ·(try dsimp only)
    exact⟨hq1.s0,hq1.a0,hq1.a1,hq1.b0,hq1.b1⟩
   clear hK K hHeld
   (try simp only[Act.put,List.setIfInBounds_toArray,List.set_cons_zero,List.set_cons_succ])
   refine wpAnyH_ready (rs:=[5]) (by kernel_rfl) (by simp) ?_;refine AllReadyH.cons (o:=_) rfl (fun K hK=>?_) ?_
   ·obtain⟨e0,e1,e2,e3,e4,_,_,_,_,_,f0,f1,f2,f3,f4⟩:=id hq1
    go_simp
    obtain⟨ws2,hw⟩:∃x,x=((ws1.setCell ⟨ra,0,none⟩ (.slice aa an ac)).setCell ⟨ra,1,none⟩ (.slice ba bn bc)):=⟨_,rfl⟩
    have hq2:=hq1.setRa hdif (.slice aa an ac) (.slice ba bn bc);have hko2:OnlyAt [rs,ra,rb] wd ((ws1.setCell ⟨ra,0,none⟩ (.slice aa an ac)).setCell ⟨ra,1,none⟩ (.slice ba bn bc)):=hko1.same (((OnlyAt.setCell _ _ _ _).same (OnlyAt.setCell _ _ _ _)).wider (by simp));rw[←hw] at hq2 hko2 ⊢;clear hw e0 e1 e2 e3 e4 f0 f1 f2 f3 f4;refine hK.out _ _ ?_ (fun hHeld=>?_)
    ·(try dsimp only)
     exact⟨hq2.s0,hq2.a0,hq2.a1,hq2.b0,hq2.b1⟩
    clear hK K hHeld
    (try simp only[Act.put,List.setIfInBounds_toArray,List.set_cons_zero,List.set_cons_succ])
    refine wpAnyH_ready (rs:=[6]) (by kernel_rfl) (by simp) ?_;refine AllReadyH.cons (o:=_) rfl (fun K hK=>?_) ?_
    ·obtain⟨e0,e1,e2,e3,e4,_,_,_,_,_,f0,f1,f2,f3,f4⟩:=id hq2
     go_simp
     obtain⟨ws3,hw⟩:∃x,x=((ws2.setCell ⟨rb,0,none⟩ (.slice ya yn yc)).setCell ⟨rb,1,none⟩ (.slice za zn zc)):=⟨_,rfl⟩
     have hq3:=hq2.setRb hdif (.slice ya yn yc) (.slice za zn zc);have hko3:OnlyAt [rs,ra,rb] wd ((ws2.setCell ⟨rb,0,none⟩ (.slice ya yn yc)).setCell ⟨rb,1,none⟩ (.slice za zn zc)):=hko2.same (((OnlyAt.setCell _ _ _ _).same (OnlyAt.setCell _ _ _ _)).wider (by simp));rw[←hw] at hq3 hko3 ⊢;clear hw e0 e1 e2 e3 e4 f0 f1 f2 f3 f4;refine hK.out _ _ ?_ (fun hHeld=>?_)
     ·(try dsimp only)
      exact⟨hq3.s0,hq3.a0,hq3.a1,hq3.b0,hq3.b1⟩
     clear hK K hHeld
     (try simp only[Act.put,List.setIfInBounds_toArray,List.set_cons_zero,List.set_cons_succ])
     refine wpAnyH_ready (rs:=[7]) (by kernel_rfl) (by simp) ?_;refine AllReadyH.cons (o:=_) rfl (fun K hK=>?_) ?_
     ·go_simp
      refine hK.out _ _ ?_ (fun hHeld=>?_)
      ·(try dsimp only)
       exact⟨hq3.s0,hq3.a0,hq3.a1,hq3.b0,hq3.b1⟩
      clear hK K hHeld
      (try simp only[Act.put,List.setIfInBounds_toArray,List.set_cons_zero,List.set_cons_succ])
      refine wpAnyH_done (by kernel_rfl) ?_ _;refine NoPanic.normal ?_;go_wp2_with fail
      exact bodyPost_ret (v:=.tuple #[.agg #[.slice xa xn xc],.agg #[.slice aa an ac,.slice ba bn bc],.agg #[.slice ya yn yc,.slice za zn zc],v']) (by simp[results,Tryz.results37,go_sem,hq3.rs0,hq3.ra0,hq3.ra1,hq3.rb0,hq3.rb1]) rfl (HEND.out _ hko3)
     exact AllReadyH.nil
    exact AllReadyH.nil
   exact AllReadyH.nil
  exact AllReadyH.nil
set_option maxRecDepth 100000 in
set_option maxHeartbeats 16000000 in
theorem drawContUnder_any (w:World) (S:Value) (len:Nat) (h:Arg w S len) :
  Calls Tryz.prog 8 #[S] w (DrewPKF w):=by
 have hpr:=Lib.hid (fun w h=>l13Draw_any w S len h);obtain⟨wA,hwA⟩:∃wA,wA=(((w.alloc (.cells #[.slice none 0 0] 26)).alloc (.cells #[.slice none 0 0,.slice none 0 0] 29)).alloc (.cells #[.slice none 0 0,.slice none 0 0] 29)):=⟨_,rfl⟩
 have hs3:wA.heap.size=w.heap.size+3:=by rw[hwA];simp
 have HBA:Hid (Below w.heap.size w wA):=by rw[hwA];exact Lib.hid ((((Below.refl _ _).alloc (Nat.le_refl _) _).alloc (by simp) _).alloc (by simp;omega) _)
 have HA:=Lib.hid (h.below HBA.out);have K1:Hid (wA.cell? ⟨w.heap.size,0,none⟩=some (.slice none 0 0)):=by unfold Hid;rw[hwA];exact box1 w _ _ _ _ 0 _ rfl
 have K2:Hid (wA.cell? ⟨w.heap.size+1,0,none⟩=some (.slice none 0 0)∧wA.cell? ⟨w.heap.size+1,1,none⟩=some (.slice none 0 0)):=by unfold Hid;rw[hwA];exact⟨box2 w _ _ _ _ 0 _ rfl,box2 w _ _ _ _ 1 _ rfl⟩
 have K3:Hid (wA.cell? ⟨w.heap.size+1+1,0,none⟩=some (.slice none 0 0)∧wA.cell? ⟨w.heap.size+1+1,1,none⟩=some (.slice none 0 0)):=by unfold Hid;rw[hwA];exact⟨box3 w _ _ _ _ 0 _ rfl,box3 w _ _ _ _ 1 _ rfl⟩
 have F1:Hid (wA.frozen? ⟨w.heap.size,0,none⟩=false):=by unfold Hid;rw[hwA];exact frz1_7 _ _ _ _ _ 0 _ rfl
 have F2:Hid (wA.frozen? ⟨w.heap.size+1,0,none⟩=false∧wA.frozen? ⟨w.heap.size+1,1,none⟩=false):=by unfold Hid;rw[hwA];exact⟨frzN _ _ _ _ 0 _ rfl,frzN _ _ _ _ 1 _ rfl⟩
 have F3:Hid (wA.frozen? ⟨w.heap.size+1+1,0,none⟩=false∧wA.frozen? ⟨w.heap.size+1+1,1,none⟩=false):=by unfold Hid;rw[hwA];exact⟨frz3N _ _ _ _ _ 0,frz3N _ _ _ _ _ 1⟩
 clear h;go_enter Tryz.func8,Tryz.ntmps8
 go_wp2_with fail
 rw[←hwA];obtain⟨rs,hrs⟩:∃x,x=w.heap.size:=⟨_,rfl⟩
 obtain⟨ra,hra⟩:∃x,x=w.heap.size+1:=⟨_,rfl⟩
 obtain⟨rb,hrb⟩:∃x,x=w.heap.size+1+1:=⟨_,rfl⟩
 rw[←hrb] at K3 F3;rw[←hra] at K2 F2;rw[←hrs] at K1 F1;simp only[←hrb];simp only[←hra];simp only[←hrs];have hlo1:w.heap.size≤rs:=by omega
 have hlo2:w.heap.size≤ra:=by omega
 have hlo3:w.heap.size≤rb:=by omega
 have hhi1:rs<wA.heap.size:=by omega
 have hhi2:ra<wA.heap.size:=by omega
 have hhi3:rb<wA.heap.size:=by omega
 have n1:rs≠ra:=by omega
 have n2:rs≠rb:=by omega
 have n3:ra≠rb:=by omega
 clear hrs hra hrb hwA hs3;refine (hpr.out _ HA.out).mono ?_;rintro e w2 ⟨sv,s,h1,b1,d1,h2,b2,d2,kv,ks,rfl,hox,hs5,hq1,hd1,hq2,hd2,hdk,hk3,hkz,hbl⟩;obtain⟨xa,xn,xc,rfl⟩:=hox.ints.shape;obtain⟨aa,an,ac,ba,bn,bc,rfl,rfl⟩:=(NearP.ofN (P:=fun _=>True) hq1 (fun _ _ _=>trivial)).shape;obtain⟨ya,yn,yc,za,zn,zc,rfl,rfl⟩:=(NearP.ofN (P:=fun _=>True) hq2 (fun _ _ _=>trivial)).shape;have HOX:=Lib.hid hox;have HQ1:=Lib.hid hq1;have HQ2:=Lib.hid hq2;have HDK:=Lib.hid hdk;have HKZ:=Lib.hid hkz;have hs2:=hbl.size;have HB2:=Lib.hid (bnext HBA.out hbl);obtain⟨w3,hw3⟩:∃w3,w3=(((w2.alloc (.cells #[.slice xa xn xc] 26)).alloc (.cells #[.slice aa an ac,.slice ba bn bc] 29)).alloc (.cells #[.slice ya yn yc,.slice za zn zc] 29)):=⟨_,rfl⟩
 have hbb:Below w2.heap.size w2 w3:=by rw[hw3];exact (((Below.refl _ _).alloc (Nat.le_refl _) _).alloc (by simp) _).alloc (by simp;omega) _
 have hw3s:=hbb.size;have hw3z:w3.heap.size=w2.heap.size+3:=by rw[hw3];simp
 have ho12:OnlyAt ([]:List Nat) wA w3:=(OnlyAt.ofBelow [] hbl).same (OnlyAt.ofBelow [] hbb);have c1:rs∉([]:List Nat):=by simp
 have c2:ra∉([]:List Nat):=by simp
 have c3:rb∉([]:List Nat):=by simp
 obtain⟨fs,hfs⟩:∃r,r=w2.heap.size:=⟨_,rfl⟩
 obtain⟨fa,hfa⟩:∃r,r=w2.heap.size+1:=⟨_,rfl⟩
 obtain⟨fb,hfb⟩:∃r,r=w2.heap.size+1+1:=⟨_,rfl⟩
 have HQ7:Hid (Q7 rs ra rb fs fa fb w3 (.slice none 0 0) (.slice none 0 0) (.slice none 0 0) (.slice none 0 0) (.slice none 0 0) (.slice xa xn xc) (.slice aa an ac) (.slice ba bn bc) (.slice ya yn yc) (.slice za zn zc)):=by
  refine Lib.hid ⟨ho12.cell c1 K1.out,ho12.cell c2 K2.out.1,ho12.cell c2 K2.out.2,ho12.cell c3 K3.out.1,ho12.cell c3 K3.out.2,?_,?_,?_,?_,?_,ho12.frozen (by omega) c1 F1.out,ho12.frozen (by omega) c2 F2.out.1,ho12.frozen (by omega) c2 F2.out.2,ho12.frozen (by omega) c3 F3.out.1,ho12.frozen (by omega) c3 F3.out.2⟩
  ·rw[hw3,hfs];exact box1 w2 _ _ _ _ 0 _ rfl
  ·rw[hw3,hfa];exact box2 w2 _ _ _ _ 0 _ rfl
  ·rw[hw3,hfa];exact box2 w2 _ _ _ _ 1 _ rfl
  ·rw[hw3,hfb];exact box3 w2 _ _ _ _ 0 _ rfl
  ·rw[hw3,hfb];exact box3 w2 _ _ _ _ 1 _ rfl
 have HEND:Hid (∀wE,OnlyAt [rs,ra,rb] w3.drew wE→DrewPKF w (.returned (.tuple #[.agg #[.slice xa xn xc],.agg #[.slice aa an ac,.slice ba bn bc],.agg #[.slice ya yn yc,.slice za zn zc],kv])) wE):=Lib.hid (fun wf k0=>by
  have k:OnlyAt [rs,ra,rb] w3 wf:=(OnlyAt.ofBelow [rs,ra,rb] ((Below.refl w3.heap.size w3).drew)).same k0;have hlo:∀b∈[rs,ra,rb],b<wA.heap.size:=fun b hb=>by simp at hb;omega
  have h0:=(HOX.out.below hbb).only k (fun b hb hm=>by have:=(HOX.out.lo b hb).1;have:=hlo b hm;omega);exact⟨_,s,_,d1,_,d2,_,ks,rfl,⟨_,_,_,rfl,h0.ints⟩,hs5,((HQ1.out.below hbb).only k hlo).rd,hd1,((HQ2.out.below hbb).only k hlo).rd,hd2,((HDK.out.below hbb).only (Nat.le_refl _) k hlo).rd,hk3,HKZ.out,OnlyAt.below (bnext HB2.out hbb) k (fun b hm=>by simp at hm;omega)⟩)
 have hdif:Dif7 rs ra rb fs fa fb:=⟨n1,n2,n3,⟨by omega,by omega,by omega⟩,⟨by omega,by omega,by omega⟩,⟨by omega,by omega,by omega⟩⟩;obtain⟨wd,hwd⟩:∃x,x=w3.drew:=⟨_,rfl⟩
 have hq:=HQ7.out.below (Below.refl w3.heap.size w3).drew;have hko:OnlyAt [rs,ra,rb] w3.drew w3.drew:=OnlyAt.refl _ _;rw[←hwd] at hq hko HEND;have HW3:=Lib.hid hw3;have HFS:=Lib.hid hfs;have HFA:=Lib.hid hfa;have HFB:=Lib.hid hfb;clear hox hq1 hq2 hdk hkz hbl hbb ho12 c1 c2 c3 hw3 hfs hfa hfb;go_wp2_with fail
 rw[←HFB.out,←HFA.out,←HFS.out,←HW3.out];clear HFS HFA HFB HW3 HQ7 HOX HQ1 HQ2 HDK HB2 hpr HBA HA K1 K2 K3 F1 F2 F3;go_wp2_with fail
 refine wp_region_noPanic ?_;refine wp_region_held_drew (S:=(fun w'=>w'.cell? ⟨fs,0,none⟩=some (.slice xa xn xc)∧w'.cell? ⟨fa,0,none⟩=some (.slice aa an ac)∧w'.cell? ⟨fa,1,none⟩=some (.slice ba bn bc)∧w'.cell? ⟨fb,0,none⟩=some (.slice ya yn yc)∧w'.cell? ⟨fb,1,none⟩=some (.slice za zn zc))) (by kernel_rfl) ?_ (fun hHeld=>?_)
 ·(try dsimp only)
  rw[←hwd];exact⟨hq.s0,hq.a0,hq.a1,hq.b0,hq.b1⟩
 refine wpAnyH_take (i:=0) (oi:=_) (v:=?_) rfl (by kernel_rfl) (by kernel_rfl) (by kernel_rfl) (fun _ _ _ h=>h) (Or.inl ⟨by rfl,?_⟩) (by assumption) ?_;rotate_left
 ·(intro w hSw;(try dsimp only at hSw);go_simp<;>with_reducible rfl)
 (try simp only[Act.put,List.setIfInBounds_toArray,List.set_cons_zero,List.set_cons_succ])
 refine wpAnyH_take (i:=1) (oi:=_) (v:=?_) rfl (by kernel_rfl) (by kernel_rfl) (by kernel_rfl) (fun _ _ _ h=>h) (Or.inl ⟨by rfl,?_⟩) (by assumption) ?_;rotate_left
 ·(intro w hSw;(try dsimp only at hSw);go_simp<;>with_reducible rfl)
 (try simp only[Act.put,List.setIfInBounds_toArray,List.set_cons_zero,List.set_cons_succ])
 refine wpAnyH_take (i:=2) (oi:=_) (v:=?_) rfl (by kernel_rfl) (by kernel_rfl) (by kernel_rfl) (fun _ _ _ h=>h) (Or.inl ⟨by rfl,?_⟩) (by assumption) ?_;rotate_left
 ·(intro w hSw;(try dsimp only at hSw);go_simp<;>with_reducible rfl)
 (try simp only[Act.put,List.setIfInBounds_toArray,List.set_cons_zero,List.set_cons_succ])
 refine wpAnyH_take (i:=3) (oi:=_) (v:=?_) rfl (by kernel_rfl) (by kernel_rfl) (by kernel_rfl) (fun _ _ _ h=>h) (Or.inl ⟨by rfl,?_⟩) (by assumption) ?_;rotate_left
 ·(intro w hSw;(try dsimp only at hSw);go_simp<;>with_reducible rfl)
 (try simp only[Act.put,List.setIfInBounds_toArray,List.set_cons_zero,List.set_cons_succ])
 clear hHeld;rw[←hwd];clear hwd;refine wpAnyH_ready (rs:=[4]) (by kernel_rfl) (by simp) ?_;refine AllReadyH.cons (o:=_) rfl (fun K hK=>?_) ?_
 ·obtain⟨e0,e1,e2,e3,e4,_,_,_,_,_,f0,f1,f2,f3,f4⟩:=id hq
  go_simp
  obtain⟨ws1,hw⟩:∃x,x=(wd.setCell ⟨rs,0,none⟩ (.slice xa xn xc)):=⟨_,rfl⟩
  have hq1:=hq.setRs hdif (.slice xa xn xc);have hko1:OnlyAt [rs,ra,rb] wd (wd.setCell ⟨rs,0,none⟩ (.slice xa xn xc)):=hko.same ((OnlyAt.setCell _ _ _ _).wider (by simp));rw[←hw] at hq1 hko1 ⊢;clear hw e0 e1 e2 e3 e4 f0 f1 f2 f3 f4;refine hK.out _ _ ?_ (fun hHeld=>?_)
  ·(try dsimp only)
   exact⟨hq1.s0,hq1.a0,hq1.a1,hq1.b0,hq1.b1⟩
  clear hK K hHeld
  (try simp only[Act.put,List.setIfInBounds_toArray,List.set_cons_zero,List.set_cons_succ])
  refine wpAnyH_ready (rs:=[5]) (by kernel_rfl) (by simp) ?_;refine AllReadyH.cons (o:=_) rfl (fun K hK=>?_) ?_
  ·obtain⟨e0,e1,e2,e3,e4,_,_,_,_,_,f0,f1,f2,f3,f4⟩:=id hq1
   go_simp
   obtain⟨ws2,hw⟩:∃x,x=((ws1.setCell ⟨ra,0,none⟩ (.slice aa an ac)).setCell ⟨ra,1,none⟩ (.slice ba bn bc)):=⟨_,rfl⟩
   have hq2:=hq1.setRa hdif (.slice aa an ac) (.slice ba bn bc);have hko2:OnlyAt [rs,ra,rb] wd ((ws1.setCell ⟨ra,0,none⟩ (.slice aa an ac)).setCell ⟨ra,1,none⟩ (.slice ba bn bc)):=hko1.same (((OnlyAt.setCell _ _ _ _).same (OnlyAt.setCell _ _ _ _)).wider (by simp));rw[←hw] at hq2 hko2 ⊢;clear hw e0 e1 e2 e3 e4 f0 f1 f2 f3 f4;refine hK.out _ _ ?_ (fun hHeld=>?_)
   ·(try dsimp only)
    exact⟨hq2.s0,hq2.a0,hq2.a1,hq2.b0,hq2.b1⟩
   clear hK K hHeld
   (try simp only[Act.put,List.setIfInBounds_toArray,List.set_cons_zero,List.set_cons_succ])
   refine wpAnyH_ready (rs:=[6]) (by kernel_rfl) (by simp) ?_;refine AllReadyH.cons (o:=_) rfl (fun K hK=>?_) ?_
   ·obtain⟨e0,e1,e2,e3,e4,_,_,_,_,_,f0,f1,f2,f3,f4⟩:=id hq2
    go_simp
    obtain⟨ws3,hw⟩:∃x,x=((ws2.setCell ⟨rb,0,none⟩ (.slice ya yn yc)).setCell ⟨rb,1,none⟩ (.slice za zn zc)):=⟨_,rfl⟩
    have hq3:=hq2.setRb hdif (.slice ya yn yc) (.slice za zn zc);have hko3:OnlyAt [rs,ra,rb] wd ((ws2.setCell ⟨rb,0,none⟩ (.slice ya yn yc)).setCell ⟨rb,1,none⟩ (.slice za zn zc)):=hko2.same (((OnlyAt.setCell _ _ _ _).same (OnlyAt.setCell _ _ _ _)).wider (by simp));rw[←hw] at hq3 hko3 ⊢;clear hw e0 e1 e2 e3 e4 f0 f1 f2 f3 f4;refine hK.out _ _ ?_ (fun hHeld=>?_)
    ·(try dsimp only)
     exact⟨hq3.s0,hq3.a0,hq3.a1,hq3.b0,hq3.b1⟩
    clear hK K hHeld
    (try simp only[Act.put,List.setIfInBounds_toArray,List.set_cons_zero,List.set_cons_succ])
    refine wpAnyH_ready (rs:=[7]) (by kernel_rfl) (by simp) ?_;refine AllReadyH.cons (o:=_) rfl (fun K hK=>?_) ?_
    ·go_simp
     refine hK.out _ _ ?_ (fun hHeld=>?_)
     ·(try dsimp only)
      exact⟨hq3.s0,hq3.a0,hq3.a1,hq3.b0,hq3.b1⟩
     clear hK K hHeld
     (try simp only[Act.put,List.setIfInBounds_toArray,List.set_cons_zero,List.set_cons_succ])
     refine wpAnyH_done (by kernel_rfl) ?_ _;refine NoPanic.normal ?_;go_wp2_with fail
     exact bodyPost_ret (v:=.tuple #[.agg #[.slice xa xn xc],.agg #[.slice aa an ac,.slice ba bn bc],.agg #[.slice ya yn yc,.slice za zn zc],kv]) (by simp[results,Tryz.results8,go_sem,hq3.rs0,hq3.ra0,hq3.ra1,hq3.rb0,hq3.rb1]) rfl (HEND.out _ hko3)
    exact AllReadyH.nil
   exact AllReadyH.nil
  exact AllReadyH.nil
 exact AllReadyH.nil
end Go.Proofs.YtpedpbbiamhgdaaGreatDoor
namespace Go.Proofs.YtpedpbbiamhgdaaGreatDoor
open Go Go.Sort Go.RowKit
set_option linter.unusedVariables false
def AnsB (d:QueryD) (db:List AtomD) (t:List Int):Prop:=∃f:Nat→Int,(∀x∈d.2,(x.1,x.2.map (ev8 f))∈db)∧t=d.1.map (ev8 f)
theorem ans_iff {s t:List Int} {d:QueryD} {db:List AtomD} (hf:fineB s d 4=true) (hdb:isDbB s db=true):t∈answersN s d db↔AnsB d db t:=by
 rw[ans_mem8 hf hdb];constructor
 ·rintro⟨r,hr,rfl⟩;exact⟨fun k=>r.getD k 0,(sound8 (by simp[emptyB]) (fine_vars hf) hr).2,tup_ev8 r d.1⟩
 ·rintro⟨f,h1,rfl⟩;obtain⟨r,hr,e⟩:=search_tup8 (β:=f) (db:=db) hf h1;exact⟨r,hr,e⟩
theorem ans_none {s t:List Int} {d:QueryD} {db:List AtomD} (h:¬isDbB s db=true):¬t∈answersN s d db:=fun ht=>by
 unfold answersN bindingsN at ht;rw[if_neg (fun e=>h e.2),(sortL_once _).2] at ht;simp at ht
def KeyDb (db ks:List AtomD):Prop:=∀n i j,i<j→violB db ks n i j=false
theorem keyDb_eq {db ks:List AtomD} (h:KeyDb db ks) {k x y:AtomD} (hk:k∈ks) (hx:x∈db) (hy:y∈db) (h1:x.1=k.1) (h2:y.1=k.1) (h3:agreeB x.2 y.2 k.2=true) (h4:agreeB y.2 x.2 k.2=true):x.2=y.2:=by
 obtain⟨n,hn⟩:=List.mem_iff_getElem?.1 hk;obtain⟨i,hi⟩:=List.mem_iff_getElem?.1 hx;obtain⟨j,hj⟩:=List.mem_iff_getElem?.1 hy;rcases Nat.lt_trichotomy i j with hl|hl|hl
 ·have:=h n i j hl;rw[viol_at hn hi hj,decide_eq_true h1,decide_eq_true h2,h3] at this;simpa using this
 ·subst hl;rw[hi] at hj;cases hj;rfl
 ·have:=h n j i hl;rw[viol_at hn hj hi,decide_eq_true h1,decide_eq_true h2,h4] at this;have h5:y.2=x.2:=by simpa using this
  exact h5.symm
theorem agree_map {a b l:List Int} (f:Int→Int) (h:agreeB a b l=true):agreeB (a.map f) (b.map f) l=true:=by
 unfold agreeB at h ⊢;rw[List.all_eq_true] at h ⊢;intro p hp;have:=h p hp;unfold agreeAt at this ⊢;rw[Bool.and_eq_true,Bool.and_eq_true,decide_eq_true_eq,decide_eq_true_eq] at this;obtain⟨h1,h2,h3⟩:=this;have h0:=of_decide_eq_true h1;have l1:p.toNat<a.length:=by omega
 have l2:p.toNat<b.length:=by omega
 rw[Bool.and_eq_true,Bool.and_eq_true,decide_eq_true_eq,decide_eq_true_eq];refine⟨by rw[List.length_map];exact h1,by rw[List.length_map];exact h2,?_⟩;rw[List.getD_eq_getElem?_getD,List.getD_eq_getElem?_getD,List.getElem?_map,List.getElem?_map];rw[List.getD_eq_getElem?_getD,List.getD_eq_getElem?_getD,List.getElem?_eq_getElem l1,List.getElem?_eq_getElem l2] at h3;rw[List.getElem?_eq_getElem l1,List.getElem?_eq_getElem l2];simpa using congrArg f (by simpa using h3)
theorem agree_comm {a b l:List Int} (h:agreeB a b l=true):agreeB b a l=true:=by
 unfold agreeB at h ⊢;rw[List.all_eq_true] at h ⊢;intro p hp;have:=h p hp;unfold agreeAt at this ⊢;rw[Bool.and_eq_true,Bool.and_eq_true,decide_eq_true_eq,decide_eq_true_eq] at this;obtain⟨h1,h2,h3⟩:=this;have h0:=of_decide_eq_true h1;rw[Bool.and_eq_true,Bool.and_eq_true,decide_eq_true_eq,decide_eq_true_eq];exact⟨decide_eq_true (by omega),by omega,h3.symm⟩
theorem ans_swp_back {d:QueryD} {db:List AtomD} {t u:Int} {tp:List Int} (h0:0≤t) (h:AnsB (swpQ d t u) db tp):AnsB d db tp:=by
 obtain⟨f,h1,rfl⟩:=h
 have key:∀z,ev8 (fun k=>if (k:Int)=t then ev8 f u else f k) z=ev8 f (if z=t then u else z):=by
  intro z;by_cases hz:z=t
  ·subst hz;rw[if_pos rfl,ev8,if_neg (by omega)];have:((z.toNat:Nat):Int)=z:=by omega
   rw[if_pos this]
  ·rw[if_neg hz];unfold ev8;by_cases hn:z<0
   ·rw[if_pos hn,if_pos hn]
   ·rw[if_neg hn,if_neg hn];have:¬((z.toNat:Nat):Int)=t:=by omega
    exact if_neg this
 have kl:∀l:List Int,l.map (ev8 (fun k=>if (k:Int)=t then ev8 f u else f k))=(swapL l t u).map (ev8 f):=by
  intro l;unfold swapL;rw[List.map_map];exact List.map_congr_left (fun z _=>key z)
 refine⟨fun k=>if (k:Int)=t then ev8 f u else f k,fun x hx=>?_,(kl d.1).symm⟩;rw[kl];exact h1 (swpA t u x) (List.mem_map.2 ⟨x,hx,rfl⟩)
theorem ans_swp {d:QueryD} {db:List AtomD} {t u:Int} {tp:List Int} (h:∃f:Nat→Int,(∀x∈d.2,(x.1,x.2.map (ev8 f))∈db)∧tp=d.1.map (ev8 f)∧ev8 f t=ev8 f u):AnsB (swpQ d t u) db tp:=by
 obtain⟨f,h1,rfl,he⟩:=h
 have kl:∀l:List Int,(swapL l t u).map (ev8 f)=l.map (ev8 f):=by
  intro l;unfold swapL;rw[List.map_map];refine List.map_congr_left (fun z _=>?_);show ev8 f (if z=t then u else z)=ev8 f z;by_cases hz:z=t
  ·subst hz;rw[if_pos rfl];exact he.symm
  ·rw[if_neg hz]
 refine⟨f,fun x hx=>?_,(kl d.1).symm⟩;obtain⟨y,hy,rfl⟩:=List.mem_map.1 (show x∈d.2.map (swpA t u) from hx);unfold swpA;dsimp only;rw[kl];exact h1 y hy
theorem ans_dd {d:QueryD} {db:List AtomD} {t:List Int}:AnsB (ddQ d) db t↔AnsB d db t:=by
 unfold AnsB ddQ;refine exists_congr fun f=>and_congr ?_ Iff.rfl
 exact forall_congr' fun x=>imp_congr (ddA_mem d.2 x) Iff.rfl
theorem pv_same {s:List Int} {d:QueryD} {db ks:List AtomD} (hK:KeyDb db ks) {i j p:Nat} {x y:AtomD} (e:pvN d.2 ks=((i:Int),(j:Int),(p:Int))) (hx:d.2[i]?=some x) (hy:d.2[j]?=some y) (hp:p<x.2.length) (hl:x.2.length=y.2.length) {f:Nat→Int} (hf:∀x∈d.2,(x.1,x.2.map (ev8 f))∈db) :
  ev8 f (x.2.getD p 0)=ev8 f (y.2.getD p 0):=by
 have hG:∃n,pvB d.2 ks n i j=true:=by
  by_cases hE:∃t:Nat × Nat × Nat,FirstG (pvB d.2 ks) t.1 t.2.1 t.2.2
  ·obtain⟨⟨n,i',j'⟩,hF⟩:=hE;have e2:=pvN_at hF;rw[e] at e2;have a1:i'=i:=by have:=congrArg (·.1) e2;simp at this;omega
   have a2:j'=j:=by have:=congrArg (·.2.1) e2;simp at this;omega
   subst a1 a2;exact⟨n,hF.1⟩
  ·exfalso;unfold pvN at e;rw[dif_neg hE] at e;have:=congrArg (·.1) e;simp at this
 obtain⟨n,hv⟩:=hG
 cases hk:ks[n]? with
 |none=>unfold pvB at hv;rw[hk] at hv;cases hv
 |some k=>
  rw[pv_at hk hx hy] at hv;simp only[Bool.and_eq_true,decide_eq_true_eq] at hv;obtain⟨h1,h2,_,h4,_⟩:=hv;have:=keyDb_eq hK (List.mem_of_getElem? hk) (hf x (mem_at13 hx)) (hf y (mem_at13 hy)) h1 h2 (agree_map _ h4) (agree_map _ (agree_comm h4));dsimp only at this;have h5:=congrArg (fun m=>m.getD p 0) this;simp only[List.getD_eq_getElem?_getD,List.getElem?_map] at h5;rw[List.getElem?_eq_getElem hp,List.getElem?_eq_getElem (show p<y.2.length by omega)] at h5;rw[List.getD_eq_getElem?_getD,List.getD_eq_getElem?_getD,List.getElem?_eq_getElem hp,List.getElem?_eq_getElem (show p<y.2.length by omega)];simpa using h5
theorem chase_back {s:List Int} {ks:List AtomD} {db:List AtomD} {tp:List Int}:∀(f:Nat) (d x:QueryD),fineB s d 4=true→chF ks f d=some x→AnsB x db tp→AnsB d db tp
 |0,d,x,h,e,_=>by cases e
 |f+1,d,x,h,e,hA=>by
  unfold chF at e
  split at e
  ·cases e;exact ans_dd.1 hA
  ·rename_i h0
   split at e
   ·rename_i hok
    obtain⟨i,j,p,a,b,e1,_,hx,hy,ex,ey,hl,hp,hne,ht,hu⟩:=chase_round h h0;simp only[e1,Int.toNat_natCast,ex,ey] at e hok;rw[eqOk_ne hne] at hok;have h2:¬max (a.2.getD p 0) (b.2.getD p 0)<0:=by simpa using hok
    rw[eqQ_ne hne h2] at e
    have hmin:termB (min (a.2.getD p 0) (b.2.getD p 0))=true∧∃c∈d.2,min (a.2.getD p 0) (b.2.getD p 0)∈c.2:=by
     rcases Int.le_total (a.2.getD p 0) (b.2.getD p 0) with h3|h3
     ·rw[Int.min_eq_left h3];exact⟨ht,a,mem_at13 hx,mem_getD hp⟩
     ·rw[Int.min_eq_right h3];exact⟨hu,b,mem_at13 hy,mem_getD (by omega)⟩
    exact ans_swp_back (by omega) (chase_back f _ x (fine_swp h hmin.1 hmin.2) e hA)
   ·cases e
theorem chase_ans {s:List Int} {ks:List AtomD} {db:List AtomD} {tp:List Int} (hK:KeyDb db ks):∀(f:Nat) (d:QueryD),fineB s d 4=true→muQ d<f→AnsB d db tp→∃x,chF ks f d=some x∧AnsB x db tp
 |0,d,h,hm,_=>by omega
 |f+1,d,h,hm,hA=>by
  unfold chF
  split
  ·exact⟨_,rfl,ans_dd.2 hA⟩
  ·rename_i h0
   obtain⟨i,j,p,a,b,e1,_,hx,hy,ex,ey,hl,hp,hne,ht,hu⟩:=chase_round h h0;have hmu:=pv_mu h0 (t:=a.2.getD p 0) (u:=b.2.getD p 0) (by rw[e1];simp only[Int.toNat_natCast];rw[ex]) (by rw[e1];simp only[Int.toNat_natCast];rw[ey]);simp only[e1,Int.toNat_natCast,ex,ey];obtain⟨g,hg,rfl⟩:=hA;have hs:=pv_same (s:=s) hK e1 hx hy hp hl hg
   have h2:¬max (a.2.getD p 0) (b.2.getD p 0)<0:=fun hm=>by
    have l1:a.2.getD p 0<0:=by omega
    have l2:b.2.getD p 0<0:=by omega
    unfold ev8 at hs;rw[if_pos l1,if_pos l2] at hs;exact hne (by omega)
   have hok:eqOk (a.2.getD p 0) (b.2.getD p 0)=true:=by rw[eqOk_ne hne];simpa using h2
   rw[if_pos hok]
   have hmin:termB (min (a.2.getD p 0) (b.2.getD p 0))=true∧∃c∈d.2,min (a.2.getD p 0) (b.2.getD p 0)∈c.2:=by
    rcases Int.le_total (a.2.getD p 0) (b.2.getD p 0) with h3|h3
    ·rw[Int.min_eq_left h3];exact⟨ht,a,mem_at13 hx,mem_getD hp⟩
    ·rw[Int.min_eq_right h3];exact⟨hu,b,mem_at13 hy,mem_getD (by omega)⟩
   have hmu2:=hmu hok;rw[eqQ_ne hne h2] at hmu2 ⊢;refine chase_ans hK f _ (fine_swp h hmin.1 hmin.2) (by omega) (ans_swp ⟨g,hg,rfl,?_⟩);rcases Int.le_total (a.2.getD p 0) (b.2.getD p 0) with h3|h3
   ·rw[Int.min_eq_left h3,Int.max_eq_right h3];exact hs.symm
   ·rw[Int.min_eq_right h3,Int.max_eq_left h3];exact hs
theorem chQ_back {s:List Int} {ks:List AtomD} {db:List AtomD} {tp:List Int} {d x:QueryD} (h:fineB s d 4=true) (e:chQ ks d=some x) (hA:AnsB x db tp):AnsB d db tp:=chase_back _ d x h e hA
theorem chQ_ans {s:List Int} {ks:List AtomD} {db:List AtomD} {tp:List Int} {d:QueryD} (hK:KeyDb db ks) (h:fineB s d 4=true) (hA:AnsB d db tp):∃x,chQ ks d=some x∧AnsB x db tp:=chase_ans hK _ d h (Nat.lt_succ_self _) hA
theorem keys_same {s:List Int} {ks db:List AtomD} {d x:QueryD} (hK:KeyDb db ks) (h:fineB s d 4=true) (e:chQ ks d=some x) (t:List Int):t∈answersN s x db↔t∈answersN s d db:=by
 by_cases hdb:isDbB s db=true
 ·rw[ans_iff (chQ_fine h e).1 hdb,ans_iff h hdb];refine⟨chQ_back h e,fun hA=>?_⟩;obtain⟨y,e2,hy⟩:=chQ_ans hK h hA;rw[e] at e2;cases e2;exact hy
 ·exact⟨fun h=>absurd h (ans_none hdb),fun h=>absurd h (ans_none hdb)⟩
theorem keys_none {s:List Int} {ks db:List AtomD} {d:QueryD} (hK:KeyDb db ks) (h:fineB s d 4=true) (e:chQ ks d=none) (t:List Int):¬t∈answersN s d db:=fun ht=>by
 by_cases hdb:isDbB s db=true
 ·obtain⟨x,e2,_⟩:=chQ_ans hK h ((ans_iff h hdb).1 ht);rw[e] at e2;cases e2
 ·exact ans_none hdb ht
theorem cu_parts {s:List Int} {a b:QueryD} {ks:List AtomD} (h:cuB s a b ks=true):fineB s a 4=true∧fineB s b 4=true∧areKeysB s ks=true∧a.1.length=b.1.length∧∀x,chQ ks a=some x→(findN b x).isSome=true:=by
 unfold cuB at h;rw[Bool.and_eq_true,Bool.and_eq_true,Bool.and_eq_true,Bool.and_eq_true,decide_eq_true_eq] at h;obtain⟨h1,h2,h3,h4,h5⟩:=h;exact⟨h1,h2,h3,h4,fun x e=>by rw[e] at h5;exact h5⟩
theorem keys_sub {s t:List Int} {ks db:List AtomD} {a b:QueryD} (hK:KeyDb db ks) (h:cuB s a b ks=true) (ht:t∈answersN s a db):t∈answersN s b db:=by
 obtain⟨h1,h2,h3,h4,h5⟩:=cu_parts h
 cases e:chQ ks a with
 |none=>exact absurd ht (keys_none hK h1 e t)
 |some x=>
  have hc:conB8 s x b=true:=by
   unfold conB8 fmN;rw[if_pos (by rw[h2,(chQ_fine h1 e).1];rfl)];exact h5 x e
  exact cont_sub8 hc ((keys_same hK h1 e t).2 ht)
theorem ans_frz {s:List Int} {x:QueryD} (h:fineB s x 4=true):AnsB x (frzDb x) (frzHd x):=by
 have hok:=fine_frz h
 have hv:∀l:List Int,(∀t∈l,-80≤t∧t≤19)→l.map (ev8 (fun k=>val8 (k:Int)))=l.map val8:=fun l hl=>List.map_congr_left (fun t ht=>by
  have:=hl t ht;unfold ev8;by_cases h0:t<0
  ·rw[if_pos h0];unfold val8;(repeat' split)<;>omega
  ·rw[if_neg h0];have:((t.toNat:Nat):Int)=t:=by omega
   show val8 _=_;rw[this])
 refine⟨fun k=>val8 (k:Int),fun y hy=>?_,?_⟩
 ·obtain⟨f1,f2,f3⟩:=frzTo_ok x.2 x.2.length (Nat.le_refl _);rw[frzDb_yes hok,f2,hv _ (body_term8 h y hy)];exact⟨y,by rw[List.take_length];exact hy,rfl⟩
 ·rw[frzHd_yes hok,hv _ (head_term8 h)]
theorem con_cu {s:List Int} {a b:QueryD} {ks:List AtomD} (h:conB8 s a b=true) (hk:areKeysB s ks=true):cuB s a b ks=true:=by
 obtain⟨y,hy⟩:=Option.isSome_iff_exists.1 h;unfold fmN at hy
 split at hy
 ·rename_i hc
  rw[Bool.and_eq_true] at hc;obtain⟨hb,ha⟩:=hc;have hF:Full y b a:=findN_ok (fun x hx=>by have:=head_term8 hb x hx;omega) (fine_vars hb) (fun x hx=>by have:=head_term8 ha x hx;omega) (fun c hc x hx=>by have:=body_term8 ha c hc x hx;omega) hy;unfold cuB;rw[ha,hb,hk,decide_eq_true hF.hlen.symm]
  cases e:chQ ks a with
  |none=>rfl
  |some x=>
   have hx:=(chQ_fine ha e).1;have h1:=chQ_back (db:=frzDb x) ha e (ans_frz hx);have h2:=ce_con8 hx hb (cont_sub8 h ((ans_iff ha (frz_db hx)).2 h1));unfold conB8 fmN at h2;rw[if_pos (by rw[hb,hx];rfl)] at h2;simpa using h2
 ·cases hy
set_option linter.unusedSimpArgs false
section
variable {P:Program}
theorem step_appC13 {w w0:World} {ops:Array Oper} {o:Oper} {a:Act} {K:Act→World→Prop} {Q:Exit→Act→World→Prop} {F:Prop} (hgd:o.guard=none) (s x:Operand) (t:TypeId)
  (ho:o.op=.call { callee:=.builtin .append,args:=#[s,x],argTypes:=#[t,t] })
  (E:TypeId) (z:Value) (size bytes:Nat) (ht:P.underlying t=some (.slice E)) (hinfo:(P.info? E).map (fun i=>(i.zero,i.size,i.bytes))=some (some z,size,bytes)) (h8:bytes≤128) (hsz:0<size) (hzs:z.cells.size=size)
  (v:Value) (n:Nat) (cs:List Value) (hs:a.eval s=v) (hown:BuiltC E size w0 w v n cs) (xv:Value) (k:Nat) (news:List Value) (hx:a.eval x=xv)
  (hxc:(∃c,xv=.slice none 0 c∧k=0∧news=[])∨∃ad c,xv=.slice (some ad) k c∧news.length=k*size∧∀j u,news[j]?=some u→w.cell? (ad.add j)=some u)
  (h1:∀u∈news,u.oneCell'=true) (hn:n+k≤1099511627776)
  (hK:∀v' w',BuiltC E size w0 w' v' (n+k) (cs++news)→OnlyAt (blk v) w w'→K (a.put o.dst v') w'):if Region.wanted o (yielded ops a.tmps)=true then Oper.wp P o a w K Q else F:=by
 have hw:Region.wanted o (yielded ops a.tmps)=true:=by simp[Region.wanted,hgd]
 rw[if_pos hw];obtain⟨i,hi,hz0,hz1,hz2⟩:=info_parts hinfo;have hsw:=hown.2.size
 have hlen:(n+k)*bytes≤140737488355328:=by
  have:(n+k)*bytes≤1099511627776*128:=Nat.mul_le_mul hn h8;omega
 rcases hxc with⟨c,hv,rfl,rfl⟩|⟨ad,c,hv,hl,hcell⟩
 ·have hrun:=run_append_none_any (P:=P) (w:=w) w0.heap.size t o.type E i size c ht hi v n cs (by have:=hown.1;rwa [hz1] at *);have hx2:a.eval x=.slice none 0 c:=by rw[hx,hv]
  unfold Oper.wp;simp[execOp,ho,resolve,invoke,builtin,hs,hx2,hrun,Result.andThen];exact hK v w (by simpa using hown) (OnlyAt.refl _ _)
 ·refine wp_append_own w s x t ho w0.heap.size E i z size bytes ht hi hz0 hz1 hz2 hzs hsz v n cs hs hown.1 ad k c news (by rw[hx,hv]) hl hcell h1 (by unfold maxLen;omega) hlen hsw ?_;intro v' w' ho' hg _;refine hK v' w' ⟨ho',hown.2.grown hg hsw fun j hj=>(hown.1.lt j hj).1⟩ (onlyAt_grown _ hg (fun k hk=>?_));rcases hown.form with⟨rfl,_⟩|⟨g,cap,rfl,_,_⟩
  ·simp[Value.ownBlock] at hk
  ·simp[Value.ownBlock] at hk;simp[blk,hk]
theorem wpList_appC13 {w w0:World} {ops:Array Oper} {rest:List Oper} {o:Oper} {a:Act} {Q:Exit→Act→World→Prop} (hgd:o.guard=none) (s x:Operand) (t:TypeId)
  (ho:o.op=.call { callee:=.builtin .append,args:=#[s,x],argTypes:=#[t,t] })
  (E:TypeId) (z:Value) (size bytes:Nat) (ht:P.underlying t=some (.slice E)) (hinfo:(P.info? E).map (fun i=>(i.zero,i.size,i.bytes))=some (some z,size,bytes)) (h8:bytes≤128) (hsz:0<size) (hzs:z.cells.size=size)
  (v:Value) (n:Nat) (cs:List Value) (hs:a.eval s=v) (hown:BuiltC E size w0 w v n cs) (xv:Value) (k:Nat) (news:List Value) (hx:a.eval x=xv)
  (hxc:(∃c,xv=.slice none 0 c∧k=0∧news=[])∨∃ad c,xv=.slice (some ad) k c∧news.length=k*size∧∀j u,news[j]?=some u→w.cell? (ad.add j)=some u)
  (h1:∀u∈news,u.oneCell'=true) (hn:n+k≤1099511627776)
  (h:∀v' w',BuiltC E size w0 w' v' (n+k) (cs++news)→OnlyAt (blk v) w w'→wpList P ops Q rest (a.put o.dst v') w'):wpList P ops Q (o::rest) a w:=by
 refine wpList_plain hgd fun K hK=>?_
 have:=step_appC13 (P:=P) (K:=K) (Q:=Q) (ops:=ops) (F:=True) hgd s x t ho E z size bytes ht hinfo h8 hsz hzs v n cs hs hown xv k news hx hxc h1 hn (fun v' w' hb ko=>hK _ _ (h v' w' hb ko))
 rwa [if_pos (by simp[Region.wanted,hgd])] at this
end
theorem info_FactT:(Tryz.prog.info? 127).map (fun i=>(i.zero,i.size,i.bytes))=some (some (.agg #[.int .i64 0,.slice none 0 0]),2,32):=by kernel_rfl
def RowR (w:World) (cs:List Value) (l:List AtomD):Prop:=cs.length=l.length*2∧∀(j:Nat) (d:AtomD),l[j]?=some d→∃a m c,cs[j*2]?=some (.int .i64 d.1)∧cs[j*2+1]?=some (.slice a m c)∧inI d.1∧Ints w (.slice a m c) d.2
theorem RowR.one {w:World} {cs:List Value} {l:List AtomD} (h:RowR w cs l):∀u∈cs,u.oneCell'=true:=fun u hu=>by
 obtain⟨t,ht⟩:=List.mem_iff_getElem?.1 hu;have hlt:=(List.getElem?_eq_some_iff.1 ht).1;have hj:t / 2<l.length:=by have:=h.1;omega
 obtain⟨a,m,c,e1,e2,_,_⟩:=h.2 (t / 2) l[t / 2] (List.getElem?_eq_getElem hj);rcases Nat.mod_two_eq_zero_or_one t with h0|h0
 ·have e:t / 2*2=t:=by omega
  rw[e,ht] at e1;cases e1;rfl
 ·have e:t / 2*2+1=t:=by omega
  rw[e,ht] at e2;cases e2;rfl
theorem RowR.nil (w:World):RowR w [] []:=⟨rfl,fun j d h=>by simp at h⟩
theorem RowR.erase {w:World} {cs:List Value} {l:List AtomD} (h:RowR w cs l) {k:Nat} (hk:k<l.length):RowR w (cs.take (k*2)++cs.drop ((k+1)*2)) (l.take k++l.drop (k+1)):=by
 have hl:=h.1;refine⟨by simp;omega,fun j d hd=>?_⟩;rcases Nat.lt_or_ge j k with h1|h1
 ·rw[List.getElem?_append_left (by simp;omega),List.getElem?_take_of_lt h1] at hd;obtain⟨a,m,c,e1,e2,e3,e4⟩:=h.2 j d hd;refine⟨a,m,c,?_,?_,e3,e4⟩
  ·rw[List.getElem?_append_left (by simp;omega),List.getElem?_take_of_lt (by omega)];exact e1
  ·rw[List.getElem?_append_left (by simp;omega),List.getElem?_take_of_lt (by omega)];exact e2
 ·rw[List.getElem?_append_right (by simp;omega),List.length_take,Nat.min_eq_left (by omega),List.getElem?_drop] at hd;obtain⟨a,m,c,e1,e2,e3,e4⟩:=h.2 _ d hd;refine⟨a,m,c,?_,?_,e3,e4⟩
  ·rw[List.getElem?_append_right (by simp;omega),List.length_take,Nat.min_eq_left (by omega),List.getElem?_drop,←e1];congr 1;omega
  ·rw[List.getElem?_append_right (by simp;omega),List.length_take,Nat.min_eq_left (by omega),List.getElem?_drop,←e2];congr 1;omega
def TmR (w wr:World) (v:Value) (l:List AtomD):Prop:=∃cs,BuiltC 127 2 w wr v l.length cs∧RowR w cs l
theorem TmR.rd {w wr:World} {v:Value} {l:List AtomD} (h:TmR w wr v l):RdAtomS wr v l:=by
 obtain⟨cs,h1,h2⟩:=h;rcases h1.form with⟨rfl,h0⟩|⟨g,cap,rfl,hc,hm⟩
 ·have:l=[]:=List.eq_nil_of_length_eq_zero h0;subst this;exact⟨_,_,_,rfl,_,_,_,rfl,rfl,Nat.le_refl _,Nat.zero_le _,fun h=>by omega⟩
 ·refine⟨_,_,_,rfl,_,_,_,rfl,rfl,hc,hm,fun h0=>⟨g,0,rfl,h1.lt.2,fun j hj=>?_⟩⟩;obtain⟨a,m,c,e1,e2,e3,e4⟩:=h2.2 j l[j] (List.getElem?_eq_getElem hj);refine⟨[.int .i64 l[j].1,.slice a m c],rfl,fun i hi=>?_,a,m,c,rfl,e3,e4.below h1.2⟩;rw[Nat.zero_add,h1.cell _ (by omega)];have:i=0∨i=1:=by omega
  rcases this with rfl|rfl
  ·exact e1
  ·exact e2
theorem TmR.below {w wr w':World} {v:Value} {l:List AtomD} (h:TmR w wr v l) (hb:Below wr.heap.size wr w'):TmR w w' v l:=by
 obtain⟨cs,h1,h2⟩:=h;exact⟨cs,h1.grow hb,h2⟩
theorem rowR_of {w:World} {v:Value} {l:List AtomD} (h:RdAtomS w v l):∃cs,RowR w cs l∧((∃c,v=.slice none 0 c∧l.length=0∧cs=[])∨∃ad c,v=.slice (some ad) l.length c∧cs.length=l.length*2∧∀w',Below w.heap.size w w'→∀j u,cs[j]?=some u→w'.cell? (ad.add j)=some u):=by
 obtain⟨a,n,c,rfl,ha⟩:=h;obtain⟨hl,hn,hm,hcell⟩:=ha.at
 rcases Nat.eq_zero_or_pos n with h0|h0
 ·have e:l=[]:=List.eq_nil_of_length_eq_zero (by omega);subst e;subst h0;refine⟨[],RowR.nil w,?_⟩
  cases a with
  |none=>exact .inl ⟨c,rfl,rfl,rfl⟩
  |some ad=>exact .inr ⟨ad,c,rfl,rfl,fun w' hb j u hu=>by simp at hu⟩
 ·obtain⟨b,off,rfl,hlt,hc⟩:=hcell h0
  have key:∀t,t<n*2→∃u,w.cell? ⟨b,off+t,none⟩=some u:=fun t ht=>by
   obtain⟨ea,em,ec,c0,c1,_,_⟩:=atomAt (n:=n) hc (t / 2) l[t / 2] (List.getElem?_eq_getElem (by omega));rcases Nat.mod_two_eq_zero_or_one t with h5|h5
   ·have e:off+t / 2*2=off+t:=by omega
    rw[e] at c0;exact⟨_,c0⟩
   ·have e:off+t / 2*2+1=off+t:=by omega
    rw[e] at c1;exact⟨_,c1⟩
  have hg:∀t,t<n*2→((List.range (n*2)).map (fun t=>(w.cell? ⟨b,off+t,none⟩).getD default))[t]?=w.cell? ⟨b,off+t,none⟩:=fun t ht=>by
   rw[List.getElem?_map,List.getElem?_range ht];obtain⟨u,hu⟩:=key t ht;show some ((w.cell? ⟨b,off+t,none⟩).getD default)=_;rw[hu];rfl
  refine⟨(List.range (n*2)).map (fun t=>(w.cell? ⟨b,off+t,none⟩).getD default),⟨by simp[hl],fun j d hd=>?_⟩,.inr ⟨⟨b,off,none⟩,c,by rw[hl],by simp[hl],fun w' hb j u hu=>?_⟩⟩
  ·obtain⟨ea,em,ec,c0,c1,hdi,hints⟩:=atomAt (n:=n) hc j d hd;have hjl:=(List.getElem?_eq_some_iff.1 hd).1;refine⟨ea,em,ec,?_,?_,hdi,hints⟩
   ·rw[hg _ (by omega)];exact c0
   ·rw[hg _ (by omega),←Nat.add_assoc];exact c1
  ·have hjl:j<n*2:=by have:=(List.getElem?_eq_some_iff.1 hu).1;simpa using this
   rw[hg j hjl] at hu;rw[Addr.add_lit];exact cellk hb hu
theorem TmR.slice {w wr:World} {g n cap:Nat} {l:List AtomD} {cs:List Value} (h1:BuiltC 127 2 w wr (.slice (some ⟨g,0,none⟩) n cap) n cs) (i m:Nat) (hm:i+m≤n) (j:Nat) (u:Value) (hu:((cs.drop (i*2)).take (m*2))[j]?=some u):wr.cell? ((⟨g,i*2,none⟩:Addr).add j)=some u:=by
 have hl:=h1.len;have hj:j<m*2:=by have:=(List.getElem?_eq_some_iff.1 hu).1;simp at this;omega
 rw[Addr.add_lit,h1.cell _ (by omega),←hu,List.getElem?_take_of_lt hj,List.getElem?_drop]
theorem least13 {p:Nat→Prop} (h:∃n,p n):∃n,p n∧∀m,p m→n≤m:=by
 obtain⟨n,hn⟩:=h
 induction n using Nat.strongRecOn with
 |ind n ih=>
  by_cases hm:∃m,m<n∧p m
  ·obtain⟨m,h1,h2⟩:=hm;exact ih m h1 h2
  ·exact⟨n,hn,fun m h2=>Nat.le_of_not_lt (fun h1=>hm ⟨m,h1,h2⟩)⟩
theorem fv_cases13 (db ks:List AtomD):(∃n i j:Nat,j<db.length∧fvN db ks=((n:Int),(i:Int),(j:Int)))∨(KeyDb db ks∧fvN db ks=(-1,-1,-1)):=by
 by_cases h:∃n,∃i j,i<j∧violB db ks n i j=true
 ·obtain⟨n,⟨hn,hmn⟩⟩:=least13 (p:=fun n=>∃i j,i<j∧violB db ks n i j=true) h;obtain⟨i,⟨hi,hmi⟩⟩:=least13 (p:=fun i=>∃j,i<j∧violB db ks n i j=true) hn;obtain⟨j,⟨hj,hmj⟩⟩:=least13 (p:=fun j=>i<j∧violB db ks n i j=true) hi
  have hF:FirstV db ks n i j:=⟨hj.2,hj.1,fun n' i' j' h1 h2=>by
   have a1:=hmn n' ⟨i',j',h1,h2⟩;rcases Nat.lt_or_ge n n' with h3|h3
   ·exact .inl h3
   ·have e:n=n':=by omega
    subst e;have a2:=hmi i' ⟨j',h1,h2⟩;rcases Nat.lt_or_ge i i' with h4|h4
    ·exact .inr ⟨rfl,.inl h4⟩
    ·have e:i=i':=by omega
     subst e;exact .inr ⟨rfl,.inr ⟨rfl,hmj j' ⟨h1,h2⟩⟩⟩⟩
  exact .inl ⟨n,i,j,(viol_in hj.2).2.2,fv_at hF⟩
 ·have hN:KeyDb db ks:=fun n i j h1=>by
   cases hv:violB db ks n i j with
   |false=>rfl
   |true=>exact absurd ⟨n,i,j,h1,hv⟩ h
  exact .inr ⟨hN,fv_none hN⟩
theorem keyDb_nil (ks:List AtomD):KeyDb [] ks:=fun n i j h=>by
 cases hv:violB [] ks n i j with
 |false=>rfl
 |true=>have:=(viol_in hv).2.1;simp at this
set_option maxHeartbeats 1000000 in
theorem lonely_any (w:World) (v:Value) (a:Option Addr) (c:Nat) :
  Calls Tryz.prog 49 #[v,.slice a 0 c] w (fun e w'=>e=.returned (.int .i64 (-1))∧w'=w):=by
 go_enter Tryz.func49,Tryz.ntmps49
 go_wp2_with fail
 go_loopw [5] (fun iv wr=>iv=.int .i64 0∧wr=w) (fun _ _=>0)
 case atStart=>exact⟨rfl,rfl⟩
 case round=>
  obtain⟨rfl,rfl⟩:=hrel;go_wp2_with fail
  go_ret;exact⟨rfl,rfl⟩
set_option maxRecDepth 100000 in
set_option maxHeartbeats 8000000 in
theorem tame_any (w:World) (v vk:Value) (db ks:List AtomD) (a:Option Addr) (c:Nat) (h:RdAtomS w v db) (hk:RdAtomS w vk ks) (hz:db.length≤1048576) :
  Calls Tryz.prog 15 #[v,vk,.slice a 0 c] w (fun e w'=>∃r l,e=.returned r∧RdAtomS w' r l∧KeyDb l ks∧Below w.heap.size w w'):=by
 have HFV:=Lib.hid (fun W x l (hb:Below w.heap.size w W) (hx:RdAtomS W x l)=>sFirstV_any W x vk l ks hx (RdAtomS.below hk hb));have HLO:=Lib.hid (fun W x=>lonely_any W x a c);obtain⟨cs,hrow,hcs⟩:=rowR_of h;have HROW:=Lib.hid hrow;have HCS:=Lib.hid hcs;obtain⟨va,vn,vc,rfl,_⟩:=h;obtain⟨ka,kn,kc,rfl,_⟩:=hk;have hal:=below_alloc w (.cells #[] 127);have HLIT:=Lib.hid (BuiltC.lit 127 2 w w 0 [] (by simp[maxLen]) rfl (Below.refl _ _));clear hrow hcs;go_enter Tryz.func15,Tryz.ntmps15
 go_wp2_with (at_builtin;refine wpList_appC13 rfl (.tmp 12) (.tmp 13) 36 rfl 127 (.agg #[.int .i64 0,.slice none 0 0]) 2 32 Tryz.underlying36 info_FactT (by decide) (by decide) (by rfl) _ 0 [] rfl HLIT.out _ db.length cs rfl (HCS.out.imp id (fun ⟨ad,c,h1,h2,h3⟩=>⟨ad,c,h1,h2,h3 _ hal⟩)) HROW.out.one (by omega) ?_)
 intro xv w1 hown _;have HX1:Hid (TmR w w1 xv db):=⟨cs,by simpa using hown,HROW.out⟩;clear hown HLIT hal HROW HCS;go_wp2_with fail
 go_loopw [7,8] (fun ov iv wr=>∃(r:Nat) (l:List AtomD),iv=.int .i64 r∧r≤200∧l.length≤1048576∧Hid (TmR w wr ov l)∧Hid (Below w.heap.size w wr)) (fun _ iv _=>200-(intOf iv).toNat)
 case atStart=>exact⟨0,db,rfl,by omega,hz,HX1,Lib.hid (by obtain⟨_,h,_⟩:=HX1.out;exact h.2)⟩
 case round=>
  clear HX1;obtain⟨r,l,rfl,hr,hl,HX,HB⟩:=hrel;obtain⟨ov,hov⟩:∃ov,ov=u7:=⟨_,rfl⟩
  subst hov;by_cases hr2:r<200
  ·have hr0:(0:Int)≤r:=by omega
   have hr1:(r:Int)<200:=by omega
   go_wp2_with fail
   refine (HFV.out wr _ l HB.out HX.out.rd).mono ?_;rintro e w2 ⟨rfl,hb⟩;have HX2:=Lib.hid (HX.out.below hb);have HB2:=Lib.hid (bnext HB.out hb);clear hb;rcases fv_cases13 l ks with⟨n,i,j,hj,e⟩|⟨hK,e⟩
   ·rw[e];clear e;dsimp only;obtain⟨cs,hbt,hrow⟩:=HX2.out;rcases hbt.form with⟨_,h0⟩|⟨g,cap,rfl,hcap,hmax⟩
    ·omega
    obtain⟨m,hm⟩:∃m,l.length=m:=⟨_,rfl⟩
    have HM:=Lib.hid hm;have HBT:=Lib.hid hbt;have HROW:=Lib.hid hrow;unfold maxLen at hmax;rw[hm] at HBT hcap hj hl hbt ⊢;have hglt:=hbt.lt;have hj0:(0:Int)≤j:=by omega
    have hj1:(j:Int)≤m:=by omega
    have hj2:((j:Int)+1)≤m:=by omega
    have hj3:¬(j:Int)<0:=by omega
    have hj4:j≤cap:=by omega
    have hj5:j+1≤cap:=by omega
    have hwr:IntKind.i64.wrap ((j:Int)+1)=((j+1:Nat):Int):=by
     simp[IntKind.wrap,IntKind.signed,IntKind.bits,IntKind.min,IntKind.max];omega
    have hwj:((j+1:Nat):Int)≤m:=by omega
    have hw0:(0:Int)≤((j+1:Nat):Int):=by omega
    have hw1:(0:Int)≤(j:Int)+1:=by omega
    clear hbt hrow hm;go_wp2_with fail
    obtain⟨wd,hwd⟩:∃x,x=w2.drew:=⟨_,rfl⟩
    have hbd:Below w2.heap.size w2 wd:=by rw[hwd];exact (Below.refl _ _).drew
    have HDZ:Hid (wd.heap.size=w2.heap.size):=Lib.hid (by rw[hwd];simp);have HBD:=Lib.hid (bnext HB2.out hbd);have HLIT:=Lib.hid (BuiltC.lit 127 2 w wd 0 [] (by simp[maxLen]) rfl HBD.out);have HOLD:=Lib.hid (HBT.out.grow hbd);clear hbd;refine wp_region_noPanic ?_;refine wp_region_held_drew (S:=(fun w'=>True)) (by kernel_rfl) ?_ (fun hHeld=>?_)
    ·trivial
    refine wpAnyH_take (i:=1) (oi:={ dst:=some 35,op:=_,type:=_,pos:=_,after:=_,guard:=none }) (v:=?_) rfl (by kernel_rfl) (by kernel_rfl) (by kernel_rfl) (fun _ _ _ h=>h) (Or.inl ⟨by rfl,?_⟩) (by trivial) ?_;rotate_left
    ·(intro w hSw;(try dsimp only at hSw);go_simp<;>with_reducible rfl)
    (try simp only[Act.put,List.setIfInBounds_toArray,List.set_cons_zero,List.set_cons_succ])
    refine wpAnyH_take (i:=2) (oi:={ dst:=some 36,op:=_,type:=_,pos:=_,after:=_,guard:=none }) (v:=?_) rfl (by kernel_rfl) (by kernel_rfl) (by kernel_rfl) (fun _ _ _ h=>h) (Or.inl ⟨by rfl,?_⟩) (by trivial) ?_;rotate_left
    ·(intro w hSw;(try dsimp only at hSw);go_simp<;>with_reducible rfl)
    (try simp only[Act.put,List.setIfInBounds_toArray,List.set_cons_zero,List.set_cons_succ])
    refine wpAnyH_take (i:=3) (oi:={ dst:=some 37,op:=_,type:=_,pos:=_,after:=_,guard:=none }) (v:=?_) rfl (by kernel_rfl) (by kernel_rfl) (by kernel_rfl) (fun _ _ _ h=>h) (Or.inl ⟨by rfl,?_⟩) (by trivial) ?_;rotate_left
    ·(intro w hSw;(try dsimp only at hSw);go_simp<;>with_reducible rfl)
    (try simp only[Act.put,List.setIfInBounds_toArray,List.set_cons_zero,List.set_cons_succ])
    refine wpAnyH_take (i:=5) (oi:={ dst:=some 39,op:=_,type:=_,pos:=_,after:=_,guard:=none }) (v:=?_) rfl (by kernel_rfl) (by kernel_rfl) (by kernel_rfl) (fun _ _ _ h=>h) (Or.inl ⟨by rfl,?_⟩) (by trivial) ?_;rotate_left
    ·(intro w hSw;(try dsimp only at hSw);go_simp<;>with_reducible rfl)
    (try simp only[Act.put,List.setIfInBounds_toArray,List.set_cons_zero,List.set_cons_succ])
    refine wpAnyH_take (i:=6) (oi:={ dst:=some 40,op:=_,type:=_,pos:=_,after:=_,guard:=none }) (v:=?_) rfl (by kernel_rfl) (by kernel_rfl) (by kernel_rfl) (fun _ _ _ h=>h) (Or.inl ⟨by rfl,?_⟩) (by trivial) ?_;rotate_left
    ·(intro w hSw;(try dsimp only at hSw);go_simp<;>with_reducible rfl)
    (try simp only[Act.put,List.setIfInBounds_toArray,List.set_cons_zero,List.set_cons_succ])
    refine wpAnyH_take (i:=7) (oi:={ dst:=some 41,op:=_,type:=_,pos:=_,after:=_,guard:=none }) (v:=?_) rfl (by kernel_rfl) (by kernel_rfl) (by kernel_rfl) (fun _ _ _ h=>h) (Or.inl ⟨by rfl,?_⟩) (by trivial) ?_;rotate_left
    ·(intro w hSw;(try dsimp only at hSw);go_simp<;>with_reducible rfl)
    (try simp only[Act.put,List.setIfInBounds_toArray,List.set_cons_zero,List.set_cons_succ])
    refine wpAnyH_take (i:=8) (oi:={ dst:=some 42,op:=_,type:=_,pos:=_,after:=_,guard:=none }) (v:=?_) rfl (by kernel_rfl) (by kernel_rfl) (by kernel_rfl) (fun _ _ _ h=>h) (Or.inl ⟨by rfl,?_⟩) (by trivial) ?_;rotate_left
    ·(intro w hSw;(try dsimp only at hSw);go_simp<;>with_reducible rfl)
    (try simp only[Act.put,List.setIfInBounds_toArray,List.set_cons_zero,List.set_cons_succ])
    rw[←hwd];clear hwd hHeld;refine wpAnyH_ready (rs:=[0]) (by kernel_rfl) (by simp) ?_;refine AllReadyH.cons (o:={ dst:=some 34,op:=_,type:=_,pos:=_,after:=_,guard:=none }) rfl (fun K hK=>?_) ?_
    ·go_simp
     have HB5:=Lib.hid (HOLD.out.grow (below_alloc wd (.cells #[] 127)));obtain⟨w5,hw5⟩:∃x,x=wd.alloc (.cells #[] 127):=⟨_,rfl⟩
     obtain⟨gd,hgd⟩:∃x,x=wd.heap.size:=⟨_,rfl⟩
     rw[←hw5] at HLIT HB5 ⊢;rw[←hgd] at HLIT ⊢;have hgg:g<gd:=by rw[hgd,HDZ.out];omega
     clear hw5 hgd;refine hK.out _ _ ?_ (fun hHeld=>?_)
     ·trivial
     clear hK K hHeld
     (try simp only[Act.put,List.setIfInBounds_toArray,List.set_cons_zero,List.set_cons_succ])
     refine wpAnyH_ready (rs:=[4]) (by kernel_rfl) (by simp) ?_;refine AllReadyH.cons (o:={ dst:=some 38,op:=_,type:=_,pos:=_,after:=_,guard:=none }) rfl (fun K hK=>?_) ?_
     ·refine step_appC13 (by rfl) (.tmp 34) (.tmp 37) 36 (by rfl) 127 (.agg #[.int .i64 0,.slice none 0 0]) 2 32 Tryz.underlying36 info_FactT (by decide) (by decide) (by rfl) _ 0 [] (by rfl) HLIT.out _ j (cs.take (j*2)) (by rfl) (.inr ⟨⟨g,0,none⟩,_,rfl,(by have:=HBT.out.len;simp;omega),fun q u hu=>?_⟩) (fun u hu=>HROW.out.one u (List.mem_of_mem_take hu)) (by omega) ?_
      ·have:=TmR.slice (w:=w) (l:=l) HB5.out 0 j (by omega) q u (by simpa using hu);simpa using this
      intro v6 w6 hown ko;have HO6:=Lib.hid hown
      have HC6:Hid (∀q u,((cs.drop ((j+1)*2)).take ((m-(j+1))*2))[q]?=some u→w6.cell? ((⟨g,(j+1)*2,none⟩:Addr).add q)=some u):=fun q u hu=>by
       have:=TmR.slice (w:=w) (l:=l) HB5.out (j+1) (m-(j+1)) (by omega) q u hu;rw[Addr.add_lit] at this ⊢;exact ko.cell (by simp[blk];omega) this
      clear hown ko;refine hK.out _ _ ?_ (fun hHeld=>?_)
      ·trivial
      clear hK K hHeld
      (try simp only[Act.put,List.setIfInBounds_toArray,List.set_cons_zero,List.set_cons_succ])
      refine wpAnyH_ready (rs:=[9]) (by kernel_rfl) (by simp) ?_;refine AllReadyH.cons (o:={ dst:=some 43,op:=_,type:=_,pos:=_,after:=_,guard:=none }) rfl (fun K hK=>?_) ?_
      ·have hdl:(cs.drop ((j+1)*2)).length=(m-(j+1))*2:=by have:=HBT.out.len;simp;omega
       have htk:(cs.drop ((j+1)*2)).take ((m-(j+1))*2)=cs.drop ((j+1)*2):=List.take_of_length_le (by omega);rw[htk] at HC6;refine step_appC13 (by rfl) (.tmp 38) (.tmp 42) 36 (by rfl) 127 (.agg #[.int .i64 0,.slice none 0 0]) 2 32 Tryz.underlying36 info_FactT (by decide) (by decide) (by rfl) _ (0+j) ([]++cs.take (j*2)) (by rfl) HO6.out _ (m-(j+1)) (cs.drop ((j+1)*2)) (by rfl) (.inr ⟨if cap=j+1 then ⟨g,0,none⟩ else ⟨g,(j+1)*2,none⟩,cap-(j+1),?_,hdl,fun q u hu=>?_⟩) (fun u hu=>HROW.out.one u (List.mem_of_mem_drop hu)) (by omega) ?_
       ·split<;>rfl
       ·by_cases hc:cap=j+1
        ·have:=(List.getElem?_eq_some_iff.1 hu).1;omega
        ·rw[if_neg hc];exact HC6.out q u hu
       intro v7 w7 hown ko
       have HX7:Hid (TmR w w7 v7 (l.take j++l.drop (j+1))):=by
        refine⟨cs.take (j*2)++cs.drop ((j+1)*2),?_,HROW.out.erase (by rw[HM.out];exact hj)⟩;have e:(l.take j++l.drop (j+1)).length=0+j+(m-(j+1)):=by simp;have:=HM.out;omega
        rw[e];simpa using hown
       have HB7:=Lib.hid hown.2;have hl7:(l.take j++l.drop (j+1)).length≤1048576:=by simp;have:=HM.out;omega
       clear hown ko;refine hK.out _ _ ?_ (fun hHeld=>?_)
       ·trivial
       clear hK K hHeld
       (try simp only[Act.put,List.setIfInBounds_toArray,List.set_cons_zero,List.set_cons_succ])
       refine wpAnyH_ready (rs:=[10]) (by kernel_rfl) (by simp) ?_;refine AllReadyH.cons (o:={ dst:=some 7,op:=_,type:=_,pos:=_,after:=_,guard:=none }) rfl (fun K hK=>?_) ?_
       ·go_simp
        refine hK.out _ _ ?_ (fun hHeld=>?_)
        ·trivial
        clear hK K hHeld
        (try simp only[Act.put,List.setIfInBounds_toArray,List.set_cons_zero,List.set_cons_succ])
        refine wpAnyH_done (by kernel_rfl) ?_ _;refine NoPanic.normal ?_;go_wp2_with fail
        exact⟨⟨r+1,_,by simp,by omega,hl7,HX7,HB7⟩,by simp[intOf];omega⟩
       exact AllReadyH.nil
      exact AllReadyH.nil
     exact AllReadyH.nil
    exact AllReadyH.nil
   ·rw[e];clear e;dsimp only;have HK:=Lib.hid hK;clear hK;go_wp2_with fail
    refine (HLO.out w2 _).mono ?_;rintro e w3 ⟨rfl,rfl⟩;go_wp2_with fail
    go_ret;exact⟨_,l,rfl,HX2.out.rd,HK.out,HB2.out⟩
  ·obtain rfl:r=200:=by omega
   go_wp2_with fail
   go_ret;exact⟨_,[],rfl,(BuiltC.lit 127 2 w wr 0 [] (by simp[maxLen]) rfl HB.out |> fun h=>TmR.rd (w:=w) ⟨[],h,RowR.nil w⟩),keyDb_nil ks,bnext HB.out (below_alloc _ _)⟩
end Go.Proofs.YtpedpbbiamhgdaaGreatDoor
