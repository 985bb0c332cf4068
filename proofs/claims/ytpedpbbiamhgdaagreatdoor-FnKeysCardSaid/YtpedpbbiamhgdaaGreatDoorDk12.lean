import Derived.Test.YtpedpbbiamhgdaaGreatDoorDrAll
import Derived.Test.YtpedpbbiamhgdaaGreatDoorSkey
import Derived.Deep.DeepCutAuto
import Derived.Deep.RegionHeld3
import Derived.Deep.RegionLaw
import Derived.Lib.QuietBelow
namespace Go.Proofs.YtpedpbbiamhgdaaGreatDoor
open Go Go.Sort Go.RowKit
set_option linter.unusedVariables false
set_option maxRecDepth 100000 in
set_option maxHeartbeats 8000000 in
theorem l12Key_any (w:World) (S:Value) (len cb:Nat) (base:Nat) (sv:Value) (s:List Int) (h:St w S len cb) (hv:OwI base w sv s) (hcb:cb<base) (hs:isSchemaB s=true) :
  Calls Tryz.prog 126 #[.pointer (some ⟨cb,0,none⟩),.agg #[sv]] w (DrewF 1 2 w S len cb):=by
 have hbl:=Lib.hid (fun n w h h0 h1=>l1Below_any n w S len cb h h0 h1);have hon:=Lib.hid (fun n w h h0 h1=>l1Once_any n w S len cb h h0 h1);have HS:=Lib.hid h;have HV:=Lib.hid hv;have hcbw:=h.cb_lt;obtain⟨sa,sc,rfl⟩:=hv.shape;obtain⟨sn,hsn⟩:∃n,s.length=n:=⟨_,rfl⟩
 obtain⟨hs1,hs2⟩:=schema_len hs;have HAT:=Lib.hid (fun j (hj:j<s.length)=>schema_at hs hj);rw[hsn] at HV hs1 hs2 ⊢;obtain⟨sg,rfl,hsg,hsc,hsm,hcell⟩:=HV.out.at hsn (by omega);unfold maxLen at hsm;have HSN:=Lib.hid hsn;obtain⟨wB,hwB⟩:∃wB,wB=w.alloc (.cells #[.slice (some ⟨sg,0,none⟩) sn sc] 26):=⟨_,rfl⟩
 have HBB:Hid (Below w.heap.size w wB):=by rw[hwB];exact below_alloc w _
 have hSB:St wB S len cb:=by rw[hwB];exact h.alloc _
 have HSB:=Lib.hid hSB;have hbs:wB.heap.size=w.heap.size+1:=by rw[hwB];simp
 have KB:Hid (wB.cell? ⟨w.heap.size,0,none⟩=some (.slice (some ⟨sg,0,none⟩) sn sc)):=by unfold Hid;rw[hwB];simp
 have KC:Hid (∀j,j<sn→wB.cell? ⟨sg,j,none⟩=some (.int .i64 (s.getD j 0))):=fun j hj=>cellk HBB.out (hcell j hj)
 have HD0:=Lib.hid (DSt.start (hSB.alloc (.cells #[.int .i64 0,.slice none 0 0] 72)));clear h hv hs hSB hcell;go_enter Tryz.func126,Tryz.ntmps126
 go_wp2_with fail
 rw[←hwB];refine (hbl.out sn _ HD0.out.st (by omega) (by omega)).mono ?_;rintro e w1 ⟨r,hr0,hr1,rfl,hcur,hg⟩;have hd:=HD0.out.draw hcur hg;obtain⟨r,rfl⟩:=Int.eq_ofNat_of_zero_le hr0;have hrs:r<sn:=by omega
 have H1:=Lib.hid (SI.start (cs:=#[.int .i64 r,.slice none 0 0]) (T:=72) (o:=1) (x0:=.int .i64 r) HSB.out hd (OwI.nil wB.heap.size w1 (by have:=hd.size;simp at this;omega)) (fun b hb=>by simp[blk] at hb) rfl (fun _=>rfl));have hw1:wB.heap.size<w1.heap.size:=by have:=hd.size;simp at this;omega
 obtain⟨hk1,hk3⟩:=HAT.out r (by omega);have KS:=Lib.hid (KC.out r hrs);generalize s.getD r 0=k at *;obtain⟨k,rfl⟩:=Int.eq_ofNat_of_zero_le (by omega:0≤k);obtain⟨w2,hw2⟩:∃x,x=w1.alloc (.cells #[.int .i64 r,.slice none 0 0] 72):=⟨_,rfl⟩
 obtain⟨fb,hfb⟩:∃fb,fb=w1.heap.size:=⟨_,rfl⟩
 obtain⟨rb,hrb⟩:∃rb,rb=wB.heap.size:=⟨_,rfl⟩
 obtain⟨sb,hsb⟩:∃sb,sb=w.heap.size:=⟨_,rfl⟩
 have hRB:rb≠fb:=by omega
 have hsbl:sb<wB.heap.size:=by omega
 have hsbc:sb≠cb:=by omega
 have hsgc:sg≠cb:=by omega
 rw[←hfb,←hrb,←hw2] at H1;clear hcur hg hd HD0 hr0 hr1;have e1:sb+1=rb:=by omega
 rw[←hsb] at KB;have HBS:=Lib.hid hbs;have HSBE:=Lib.hid hsb;have HE1:=Lib.hid e1;have HRBE:=Lib.hid hrb;have HFBE:=Lib.hid hfb;have HW2:=Lib.hid hw2;clear hfb hrb e1 hw1 hsb hbs hwB hw2;have hd:=H1.out.2.2.2.2.2.2.2;have kb:=hd.cell hsbc KB.out;have ks:=hd.cell hsgc KS.out;obtain⟨kr,kr'⟩:=H1.out.2.2.2.1 (by omega);have kf:=H1.out.2.1;have kf':=H1.out.2.2.1;clear hd;have hr0:(0:Int)≤r:=by omega
 have hr1:(r:Int)<sn:=by omega
 go_upto_region 2 with fail
 rw[←HFBE.out,←HSBE.out,HE1.out,←HW2.out];clear HW2;go_wp2_with fail
 refine (hbl.out k _ H1.out.st (by omega) (by omega)).mono ?_;rintro e w3 ⟨y,hy0,hy1,rfl,hcur,hg⟩;have H3:=Lib.hid (H1.out.draw hcur hg);clear hcur hg kb ks kr kr' kf kf' H1;have hfl:fb<w3.heap.size:=H3.out.2.2.2.2.2.2.1.2.1;have hrl:rb<w3.heap.size:=heap_lt H3.out.2.2.2.2.1;have hwl:wB.heap.size≤w3.heap.size:=H3.out.2.2.2.2.2.2.2.size;obtain⟨w4,hw4⟩:∃x,x=(w3.alloc (.cells #[.int .i64 y] 3)).setCell ⟨fb,1,none⟩ (.slice (some ⟨w3.heap.size,0,none⟩) 1 1):=⟨_,rfl⟩
 have e4:(w3.setCell ⟨fb,1,none⟩ (.slice (some ⟨w3.heap.size,0,none⟩) 1 1)).alloc (.cells #[.int .i64 y] 3)=w4:=by
  rw[hw4];first|exact World.setCell_alloc_past _ _ _ _ hfl|exact (World.setCell_alloc_past _ _ _ _ hfl).symm
 have H4:Hid (SI wB (.cells #[.int .i64 0,.slice none 0 0] 72 (0,0)) (.int .i64 r) rb fb 1 w4 (.slice (some ⟨w3.heap.size,0,none⟩) 1 1) [y] S len cb):=by
  rw[hw4];exact Lib.hid ((H3.out.below (below_alloc w3 (.cells #[.int .i64 y] 3))).put (xv1:=.slice (some ⟨w3.heap.size,0,none⟩) 1 1) (l1:=[y]) (OwI.lit wB.heap.size w3 [y] hwl (by simp[maxLen]) (fun x hx=>by simp at hx;unfold inI;omega)) (fun b hb=>by simp[blk] at hb;omega))
 have kf:=H3.out.2.1;have kf':=H3.out.2.2.1;have HE4:=Lib.hid e4;have HW4:=Lib.hid hw4;clear e4 hw4;go_upto_region 3 with fail
 first|rw[HE4.out]|rw[←HW4.out]
 clear HE4 HW4 kf kf';obtain⟨g,hg3⟩:∃g,g=w3.heap.size:=⟨_,rfl⟩
 rw[←hg3] at H4 ⊢;clear hg3 hfl hrl hwl H3
 go_cut [37] (fun q37 wx=>∃b:Bool,q37=.bool b∧(b=true→y+1<k)∧SI wB (.cells #[.int .i64 0,.slice none 0 0] 72 (0,0)) (.int .i64 r) rb fb 1 wx (.slice (some ⟨g,0,none⟩) 1 1) [y] S len cb)
 case first=>
  have hd:=H4.out.2.2.2.2.2.2.2;have kb:=hd.cell hsbc KB.out;have ks:=hd.cell hsgc KS.out;obtain⟨kr,kr'⟩:=H4.out.2.2.2.1 (by omega);have kf:=H4.out.2.1;obtain⟨_,hG,_,_,_,hc4⟩:=H4.out.1.at rfl (by omega)
  cases hG;have qg:w4.cell? ⟨g,0,none⟩=some (.int .i64 y):=hc4 0 (by omega);have hwr:IntKind.i64.wrap (y+1)=y+1:=by rw[IntKind.wrap_i64];omega
  clear hd hc4 kr';by_cases hlt:y+1<(k:Int)
  ·have d1:=cellk (Below.refl w4.heap.size w4).drew kb;have d2:=cellk (Below.refl w4.heap.size w4).drew ks;have d3:=cellk (Below.refl w4.heap.size w4).drew kr;have d4:=cellk (Below.refl w4.heap.size w4).drew kf;have d5:=cellk (Below.refl w4.heap.size w4).drew qg;have hY1:y+1<(k:Int):=hlt;have hY3:decide (y+1<(k:Int))=true:=decide_eq_true hlt;clear hlt
   go_region_held3 (fun w'=>w'.cell? ⟨sb,0,none⟩=some (.slice (some ⟨sg,0,none⟩) sn sc)∧w'.cell? ⟨sg,r,none⟩=some (.int .i64 k)∧w'.cell? ⟨fb,0,none⟩=some (.int .i64 r)∧w'.cell? ⟨fb,1,none⟩=some (.slice (some ⟨g,0,none⟩) 1 1)∧w'.cell? ⟨g,0,none⟩=some (.int .i64 y))
    ((first|with_reducible exact⟨m1,m2,m3,m4,m5⟩|with_reducible exact⟨d1,d2,d3,d4,d5⟩))
    (first
    |(go_simp;go_at_call 76;(with_reducible refine (hon.out 4 _ (H4.out.below (Below.refl _ _).drew).st (by omega) (by omega)).mono ?_);rintro e2 w5 ⟨bb,rfl,hcur,hg⟩;have HI5:=Lib.hid ((H4.out.below (Below.refl w4.heap.size w4).drew).draw hcur hg);have hd5:=HI5.out.2.2.2.2.2.2.2;have m1:=hd5.cell hsbc KB.out;have m2:=hd5.cell hsgc KS.out;have m3:=(HI5.out.2.2.2.1 (by omega)).1;have m4:=HI5.out.2.1;have m5:w5.cell? ⟨g,0,none⟩=some (.int .i64 y):=(by obtain⟨_,hG,_,_,_,hc5⟩:=HI5.out.1.at rfl (by omega);cases hG;exact hc5 0 (by omega));clear hd5 hcur hg))
   all_goals (go_wp2_with fail)
   all_goals go_meet
   all_goals exact⟨bb,rfl,fun _=>hY1,HI5.out⟩
  ·have c1:=cell_regrown (w:=w4) kb;have c2:=cell_regrown (w:=w4) ks;have c3:=cell_regrown (w:=w4) kr;have c4:=cell_regrown (w:=w4) kf;have c5:=cell_regrown (w:=w4) qg;have hY2:¬(y+1<(k:Int)):=hlt;have hY3:decide (y+1<(k:Int))=false:=decide_eq_false hlt;clear hlt kb ks kr kf qg;refine wp_region_quiet_below (by kernel_rfl) (by kernel_rfl) ?_
   repeat (any_goals (first|go_big_quiet_step (fail)|quiet_step (fail)))
   refine wpQuiet_nil ?_;intro _ hw';obtain⟨⟨dq,osq⟩,hw''⟩:=hw';subst hw'';go_wp2_with fail
   go_meet
   exact⟨false,rfl,(fun h=>by cases h),H4.out.below (below_regrown _ _ _)⟩
 case rest=>
  obtain⟨b,rfl,hlt,hSI⟩:=hcut;obtain⟨w5,hw5⟩:∃x,x=wc:=⟨_,rfl⟩
  subst hw5;have HI:=Lib.hid hSI;clear hSI H4
  cases b with
  |false=>
   have hrow:=HI.out.2.2.2.2.1;have q0:w5.cell? ⟨rb,0,none⟩=some (.int .i64 0):=by rw[cell_of_row w5 rb 0 _ _ _ hrow];rfl
   have q1:w5.cell? ⟨rb,1,none⟩=some (.slice none 0 0):=by rw[cell_of_row w5 rb 1 _ _ _ hrow];rfl
   have f0:=frozen_of_row w5 rb 0 _ _ hrow;have f1:=frozen_of_row w5 rb 1 _ _ hrow;obtain⟨kr,kr'⟩:=HI.out.2.2.2.1 (by omega);have kf:=HI.out.2.1;clear hrow hlt;go_wp2_with fail
   refine bodyPost_ret (v:=.agg #[.int .i64 r,.slice (some ⟨g,0,none⟩) 1 1]) (by simp[results,Tryz.results126,go_sem,q0,q1]) rfl ?_;obtain⟨g1,g2⟩:=HI.out.fin (w':=(World.setCell _ ⟨rb,0,none⟩ (.int .i64 r)).setCell ⟨rb,1,none⟩ (.slice (some ⟨g,0,none⟩) 1 1)) ((OnlyAt.setCell _ _ _ _).same (OnlyAt.setCell _ _ _ _));have hsz:=HBB.out.size;exact⟨r,_,_,rfl,by unfold inI;omega,g1.mono hsz,by simp,by simp,((DSt.start HS.out).below HBB.out).trans g2⟩
  |true=>
   have hY:=hlt rfl;have kf:=HI.out.2.1;have kf':=HI.out.2.2.1;obtain⟨_,hG,_,_,_,hc4⟩:=HI.out.1.at rfl (by omega)
   cases hG;have qg:w5.cell? ⟨g,0,none⟩=some (.int .i64 y):=hc4 0 (by omega);obtain⟨W,hWs,hbt⟩:=HI.out.1.built;have HBT:=Lib.hid hbt;have hba:=below_alloc w5 (.cells #[.int .i64 (y+1)] 3);have qf2:=cellk hba kf;have qg2:=cellk hba qg;have HBA:=Lib.hid hba;have hwr:IntKind.i64.wrap (y+1)=y+1:=by rw[IntKind.wrap_i64];omega
   clear hlt hc4 hbt hba;go_wp2_with fail
   go_region_law (first
    |(refine step_app1D (by rfl) (.tmp 39) (.tmp 45) 24 (by rfl) 3 (.int .i64 0) 1 8 Tryz.underlying24 info_intD (by decide) (by decide) (by rfl) (.slice (some ⟨g,0,none⟩) 1 1) 1 ([y].map (Value.int .i64)) (by rfl) (BuiltC.grow HBT.out ((Below.refl _ _).alloc (Nat.le_refl _) _).drew) w5.heap.size [.int .i64 (y+1)] (by rfl) (by simp[Value.oneCell']) (by first|rfl|simp) (heap_alloc_new w5 (.cells #[.int .i64 (y+1)] 3)) (by omega) ?_;intro g' cap' w6 hown' ko hbl;have HX:=Lib.hid (HI.out.below ((Below.refl w5.heap.size w5).alloc (Nat.le_refl _) (.cells #[.int .i64 (y+1)] 3)).drew);have HI5:=Lib.hid (HX.out.step (x:=y+1) hWs hown' ko (fun b hb=>(hbl b hb).imp id (fun e=>by rw[e];exact Nat.le_refl _)) (by unfold inI;omega));obtain⟨z1,z2,z3,z5⟩:=HX.out.after ko;obtain⟨z6,z7⟩:=z5 (by omega);have z4:=cell_of_row _ rb 0 _ _ _ z3;have z8:=cell_of_row _ rb 1 _ _ _ z3;have z9:=frozen_of_row _ rb 0 _ _ z3;have z10:=frozen_of_row _ rb 1 _ _ z3))
   all_goals (go_wp2_with fail)
   all_goals
    refine bodyPost_ret (v:=.agg #[.int .i64 r,.slice (some ⟨g',0,none⟩) (1+1) cap']) (by simp[results,Tryz.results126,go_sem,z4,z8]) rfl ?_;obtain⟨g1,g2⟩:=HI5.out.fin (w':=(World.setCell _ ⟨rb,0,none⟩ (.int .i64 r)).setCell ⟨rb,1,none⟩ (.slice (some ⟨g',0,none⟩) (1+1) cap')) ((OnlyAt.setCell _ _ _ _).same (OnlyAt.setCell _ _ _ _));have hsz:=HBB.out.size;exact⟨r,_,_,rfl,by unfold inI;omega,g1.mono hsz,by simp,by simp,((DSt.start HS.out).below HBB.out).trans g2⟩
def DKs (base:Nat) (w:World) (v:Value) (l:List AtomD):Prop:=∃W bss,W.heap.size=base∧OutInv 72 W w v l bss
theorem DKs.only {base base':Nat} {w w':World} {v:Value} {l:List AtomD} {bs:List Nat} (h:DKs base w v l) (hB:base'≤base) (k:OnlyAt bs w w') (hn:∀b∈bs,b<base):DKs base' w' v l:=by
 obtain⟨W,bss,h1,h2⟩:=h;have hs:=h2.below.size;have hs2:=k.size;obtain⟨W',k1,k2⟩:=virt w' base' (by omega);refine⟨W',bss,k1,h2.rebase (by omega) k2 k (fun b hb hm=>?_) (fun b hb hm=>?_)⟩
 ·have:=h2.blk_lo b hb;have:=hn b hm;omega
 ·have:=h2.2.2 b hb;have:=hn b hm;omega
theorem DKs.below {base:Nat} {w w':World} {v:Value} {l:List AtomD} (h:DKs base w v l) (hb:Below w.heap.size w w'):DKs base w' v l:=h.only (Nat.le_refl _) (OnlyAt.ofBelow [] hb) (fun b hm=>by simp at hm)
theorem DKs.mono {base base':Nat} {w:World} {v:Value} {l:List AtomD} (h:DKs base w v l) (hB:base'≤base):DKs base' w v l:=h.only hB (OnlyAt.refl [] w) (fun b hm=>by simp at hm)
theorem DKs.draw {base:Nat} {w w':World} {v:Value} {l:List AtomD} {S:Value} {len cb:Nat} (h:DKs base w v l) (hlt:cb<base) (hd:DSt w w' S len cb):DKs base w' v l:=
 h.only (Nat.le_refl _) hd.2.1 (fun b hm=>by simp at hm;omega)
theorem DKs.done {base:Nat} {w:World} {v:Value} {l:List AtomD} (h:DKs base w v l):∃bs,ROAtomS w v l bs∧bs.Nodup∧∀b∈bs,base≤b∧b<w.heap.size:=by
 obtain⟨W,bss,h1,h2⟩:=h;obtain⟨bs,h3,h4⟩:=h2.done;exact⟨bs,h3,h4.1,fun b hb=>by rw[←h1];exact h4.2 b hb⟩
theorem DKs.lit (base:Nat) (w:World) (h:base≤w.heap.size):DKs base (w.alloc (.cells #[] 72)) (.slice (some ⟨w.heap.size,0,none⟩) 0 0) []:=by
 obtain⟨W,h1,h2⟩:=virt w base h;exact⟨W,[],h1,OutInv.lit _ W w h2⟩
theorem DKs.app {base:Nat} {W w w3:World} {v v':Value} {l:List AtomD} {cs:List Value} {bss:List (List Nat)} {r:Int} {a:Option Addr} {n c:Nat} {li:List Int}
  (h:OutInv 72 W w v l bss) (h1:BuiltC 72 2 W w v l.length cs) (h2:Els w cs l bss) (ho:OwI base w (.slice a n c) li) (hv:∀b∈blk v,b<base) (hl:∀b∈bss.flatten,b<base) (hr:inI r)
  (h':BuiltC 72 2 W w3 v' (l.length+1) (cs++[.int .i64 r,.slice a n c])) (ko:OnlyAt (blk v) w w3) (hv':∀b∈blk v',b∈blk v∨w.heap.size≤b) (hB:W.heap.size≤base):DKs W.heap.size w3 v' (l++[(r,li)]):=by
 obtain⟨bs,ho1,ho2,ho3⟩:=ho.owns;obtain⟨_,h6,h7⟩:=h;have hs3:=ko.size;rw[List.nodup_append] at h6;obtain⟨n1,n2,n3⟩:=h6;have hbx:∀b∈bs,b∉blk v:=fun b hb hx=>by have:=hv b hx;have:=ho3 b hb;omega
 have hn:∀b∈bss.flatten,b∉blk v:=fun b hb hx=>n3 b hx b hb rfl
 have e:(bss++[bs]).flatten=bss.flatten++bs:=by simp
 refine⟨W,bss++[bs],rfl,BuiltA.app h1 h2 h' ko hn hr ho1 hbx,?_,?_⟩
 ·rw[e,List.nodup_append,List.nodup_append];refine⟨?_,⟨n2,ho2,fun x hx y hy e=>?_⟩,fun x hx y hy e=>?_⟩
  ·rcases h'.form with⟨rfl,_⟩|⟨g,cap,rfl,_,_⟩<;>simp[blk]
  ·have:=hl x hx;have:=ho3 y hy;omega
  ·subst e;rcases hv' x hx with hx|hx
   ·rcases List.mem_append.1 hy with hy|hy
    ·exact n3 x hx x hy rfl
    ·exact hbx x hy hx
   ·rcases List.mem_append.1 hy with hy|hy
    ·have:=(h7 x hy).2;omega
    ·have:=(ho3 x hy).2;omega
 ·intro b hb;rw[e] at hb;rcases List.mem_append.1 hb with hb|hb
  ·have:=h7 b hb;omega
  ·have:=ho3 b hb;omega
theorem DKs.rd {base:Nat} {w:World} {v:Value} {l:List AtomD} (h:DKs base w v l):RdAtomS w v l:=by
 obtain⟨bs,h1,_⟩:=h.done;exact h1.rd
theorem DKs.ready {B:Nat} {w4 w5:World} {v:Value} {l:List AtomD} {S:Value} {len cb:Nat} (h:DKs B w4 v l) (hlt:cb<B) (hd:DSt w4 w5 S len cb) :
  ∃W bss cs,W.heap.size=B∧OutInv 72 W w5 v l bss∧BuiltC 72 2 W w5 v l.length cs∧Els w5 cs l bss∧(∀b∈blk v,B≤b∧b<w4.heap.size)∧(∀b∈bss.flatten,b<w4.heap.size)∧B≤w4.heap.size:=by
 obtain⟨W,bss,hW,ho⟩:=h;have hs:=hd.size;have h1:=ho.below.size;obtain⟨W',hW',hb'⟩:=virt w5 B (by omega);have ho5:=ho.rebase (W':=W') (by omega) hb' hd.2.1 (fun b hb hm=>by simp at hm;have:=(ho.blk_lo b hb).1;omega) (fun b hb hm=>by simp at hm;have:=(ho.2.2 b hb).1;omega);obtain⟨cs,c1,c2⟩:=ho5.parts;exact⟨W',bss,cs,hW',ho5,c1,c2,fun b hb=>by have:=ho.blk_lo b hb;omega,fun b hb=>(ho.2.2 b hb).2,by omega⟩
def DrewLK (hi m:Nat) (w:World) (S:Value) (len cb:Nat) (e:Ending) (w':World):Prop:=
 ∃(v:Value) (l:List AtomD),e=.returned v∧DKs w.heap.size w' v l∧l.length≤hi∧(∀x∈l,x.2.length≤m)∧DSt w w' S len cb
set_option maxRecDepth 100000 in
set_option maxHeartbeats 8000000 in
theorem l12Keys_any (w:World) (S:Value) (len cb:Nat) (base:Nat) (sv:Value) (s:List Int) (h:St w S len cb) (hv:OwI base w sv s) (hcb:cb<base) (hs:isSchemaB s=true) :
  Calls Tryz.prog 74 #[.pointer (some ⟨cb,0,none⟩),.agg #[sv]] w (DrewLK 2 2 w S len cb):=by
 have hbl:=Lib.hid (fun n w h h0 h1=>l1Below_any n w S len cb h h0 h1);have hfa:=Lib.hid (fun w h hv=>l12Key_any w S len cb base sv s h hv hcb hs);have HS:=Lib.hid h;have hcbw:=h.cb_lt;obtain⟨sa,sc,rfl⟩:=hv.shape;obtain⟨sn,hsn⟩:∃n,s.length=n:=⟨_,rfl⟩
 rw[hsn] at hv hfa ⊢;obtain⟨wB,hwB⟩:∃wB,wB=w.alloc (.cells #[.slice sa sn sc] 26):=⟨_,rfl⟩
 have HBB:Hid (Below w.heap.size w wB):=by rw[hwB];exact below_alloc w _
 have hSB:St wB S len cb:=by rw[hwB];exact h.alloc _
 have HSB:=Lib.hid hSB;have hbs:wB.heap.size=w.heap.size+1:=by rw[hwB];simp
 have KB:Hid (wB.cell? ⟨w.heap.size,0,none⟩=some (.slice sa sn sc)):=by unfold Hid;rw[hwB];simp
 have HV:Hid (OwI base wB (.slice sa sn sc) s):=hv.below HBB.out;have HD0:=Lib.hid ((DSt.start hSB).below (below_alloc wB (.cells #[] 72)));have HL0:=Lib.hid (DKs.lit wB.heap.size wB (Nat.le_refl _));clear h hv hs hSB hsn;go_enter Tryz.func74,Tryz.ntmps74
 go_wp2_with fail
 rw[←hwB];refine (hbl.out 3 _ HD0.out.st (by omega) (by omega)).mono ?_;rintro e w1 ⟨x,hx0,hx1,rfl,hcur,hg⟩;have HD1:=Lib.hid (HD0.out.draw hcur hg);have HL1:Hid (DKs wB.heap.size w1 (.slice (some ⟨wB.heap.size,0,none⟩) 0 0) []):=HL0.out.only (Nat.le_refl _) (grownBy_only hg) (fun b hb=>by simp at hb;omega);obtain⟨x,rfl⟩:=Int.eq_ofNat_of_zero_le hx0;obtain⟨sb,hsb⟩:∃sb,sb=w.heap.size:=⟨_,rfl⟩
 have hsbl:sb<wB.heap.size:=by omega
 have hsbc:sb≠cb:=by omega
 have hcbB:cb<wB.heap.size:=by omega
 clear hcur hg HD0 HL0 hx0;go_wp2_with fail
 rw[←hbs,←hsb];rw[←hsb] at KB;have HSBE:=Lib.hid hsb;have HBS:=Lib.hid hbs;clear hsb hbs hwB
 go_loopw [5,6] (fun ov nv wr=>∃(k:Nat) (l:List AtomD),nv=.int .i64 k∧k+l.length≤2∧Hid (∀x∈l,x.2.length≤2)∧Hid (DKs wB.heap.size wr ov l)∧Hid (DSt wB wr S len cb)) (fun _ nv _=>(intOf nv).toNat)
 case atStart=>exact⟨x,[],rfl,by simp;omega,fun x hx=>by simp at hx,HL1,HD1⟩
 case round=>
  obtain⟨k,l,rfl,hkl,HZ,HL,HD⟩:=hrel;obtain⟨ov,hov⟩:∃ov,ov=u5:=⟨_,rfl⟩
  subst hov;have kb:=HD.out.cell hsbc KB.out;by_cases hk0:0<k
  ·go_wp2_with fail
   refine (hfa.out wr HD.out.st (HV.out.draw hcb HD.out)).mono ?_;rintro e w3 ⟨r,xv,fl,rfl,hri,how,hl1,hl3,hd⟩;obtain⟨ya,yc,rfl⟩:=how.shape;obtain⟨fn,hfn⟩:∃n,fl.length=n:=⟨_,rfl⟩
   have HFN:=Lib.hid hfn;rw[hfn] at how hl1 hl3 ⊢;obtain⟨w4,hw4⟩:∃x,x=w3.alloc (.cells #[.int .i64 r,.slice ya fn yc] 72):=⟨_,rfl⟩
   have hba:Below w3.heap.size w3 w4:=by rw[hw4];exact below_alloc w3 _
   obtain⟨W,bss,cs,hW,ho,hc1,hc2,hb1,hb2,hb3⟩:=HL.out.ready hcbB (hd.below hba);have HO:=Lib.hid ho;have HC1:=Lib.hid hc1;have HC2:=Lib.hid hc2;have HOY:=Lib.hid (how.below hba);have HD4:=Lib.hid ((HD.out.trans hd).below hba);have HW4:=Lib.hid hw4;have q0:w4.cell? ⟨w3.heap.size,0,none⟩=some (.int .i64 r):=by rw[hw4];simp
   have q1:w4.cell? ⟨w3.heap.size,1,none⟩=some (.slice ya fn yc):=by rw[hw4];simp
   obtain⟨fb,hfb⟩:∃fb,fb=w3.heap.size:=⟨_,rfl⟩
   rw[←hfb] at q0 q1;have HFB:=Lib.hid hfb;clear kb how hd hba ho hc1 hc2 hfn hw4 hfb;go_upto_region 6 with fail
   rw[←HW4.out,←HFB.out];clear HW4 HFB;go_wp2_with (at_builtin;refine wpList_app1D rfl (.tmp 18) (.tmp 20) 30 rfl 72 (.agg #[.int .i64 0,.slice none 0 0]) 2 32 Tryz.underlying30 info_Key (by decide) (by decide) (by rfl) ov l.length cs rfl HC1.out [.int .i64 r,.slice ya fn yc] rfl (by simp[Value.oneCell']) (by first|rfl|(simp;rfl)) (by omega) ?_)
   intro v' w7 hown' ko hbl7;have HL7:=Lib.hid (DKs.app (base:=wr.heap.size) HO.out HC1.out HC2.out HOY.out (fun b hb=>(hb1 b hb).2) hb2 hri hown' ko (fun b hb=>(hbl7 b hb).imp id (fun h=>by simpa using h)) (by omega));rw[hW] at HL7;have HD7:=Lib.hid (HD4.out.only ko (fun b hb=>(hb1 b hb).1));have HZ7:Hid (∀y∈l++[(r,fl)],y.2.length≤2):=fun y hy=>(List.mem_append.1 hy).elim (HZ.out y) (fun e=>by simp at e;rw[e];show fl.length≤2;rw[HFN.out];exact hl3)
   clear hown' ko hbl7;go_wp2_with fail
   exact⟨⟨k-1,_,by rw[show ((k:Int)-1)=((k-1:Nat):Int) from by omega],by simp;omega,HZ7,HL7,HD7⟩,by simp[intOf];omega⟩
  ·obtain rfl:k=0:=by omega
   clear kb;go_wp2_with fail
   go_ret;exact⟨_,l,rfl,HL.out.mono (by have:=HBB.out.size;omega),by omega,HZ.out,((DSt.start HS.out).below HBB.out).trans HD.out⟩
set_option maxRecDepth 100000 in
set_option maxHeartbeats 8000000 in
theorem l12Any_any (w:World) (S:Value) (len cb:Nat) (base:Nat) (sv:Value) (s:List Int) (h:St w S len cb) (hv:OwI base w sv s) (hcb:cb<base) :
  Calls Tryz.prog 77 #[.pointer (some ⟨cb,0,none⟩),.agg #[sv]] w (DrewF 1 3 w S len cb):=by
 have hbl:=Lib.hid (fun n w h h0 h1=>l1Below_any n w S len cb h h0 h1);have hfa:=Lib.hid (fun w sv s h hv hs=>l12Key_any w S len cb base sv s h hv hcb hs);have hsf:=Lib.hid (fun w h=>l4Safe_any w base sv s h);have hpi:=Lib.hid (fun g n xs w h hn0 hn1 hg hx hc hr=>l1PickInt_any g n xs w S len cb h hn0 hn1 hg hx hc hr);have HS:=Lib.hid h;have hcbw:=h.cb_lt;obtain⟨sa,sc,rfl⟩:=hv.shape;obtain⟨sn,hsn⟩:∃n,s.length=n:=⟨_,rfl⟩
 rw[hsn] at hv hsf ⊢;obtain⟨wB,hwB⟩:∃wB,wB=w.alloc (.cells #[.slice sa sn sc] 26):=⟨_,rfl⟩
 have HBB:Hid (Below w.heap.size w wB):=by rw[hwB];exact below_alloc w _
 have hSB:St wB S len cb:=by rw[hwB];exact h.alloc _
 have HSB:=Lib.hid hSB;have hbs:wB.heap.size=w.heap.size+1:=by rw[hwB];simp
 have hba:=below_alloc wB (.cells #[.int .i64 0,.slice none 0 0] 72);have HBA:=Lib.hid hba;have KB:Hid ((wB.alloc (.cells #[.int .i64 0,.slice none 0 0] 72)).cell? ⟨w.heap.size,0,none⟩=some (.slice sa sn sc)):=cellk hba (by rw[hwB];simp);have HV:Hid (OwI base (wB.alloc (.cells #[.int .i64 0,.slice none 0 0] 72)) (.slice sa sn sc) s):=(hv.below HBB.out).below hba;have HD0:=Lib.hid (DSt.start (hSB.alloc (.cells #[.int .i64 0,.slice none 0 0] 72)));clear h hv hSB hsn hba;go_enter Tryz.func77,Tryz.ntmps77
 go_wp2_with fail
 rw[←hwB];refine (hsf.out _ HV.out).mono ?_;rintro e w1 ⟨xv,s1,rfl,how,hs1,hb⟩;have HD1:=Lib.hid (HD0.out.below hb);clear hb;go_wp2_with fail
 refine (hfa.out _ _ s1 HD1.out.st how hs1).mono ?_;rintro e w2 ⟨r,yv,l,rfl,hri,hoy,hl1,hl3,hd⟩;have H1:=Lib.hid (SI.start (cs:=#[.int .i64 r,yv]) (T:=72) (o:=1) (x0:=.int .i64 r) HSB.out (HD1.out.trans hd) (hoy.mono (by have:=HD1.out.size;simp at this;omega)) (fun b hb=>by have:=(hoy.lo b hb).1;have:=HD1.out.size;simp at this;omega) rfl (fun _=>rfl));obtain⟨oa,oc,rfl⟩:=hoy.shape;obtain⟨n,hn⟩:∃n,l.length=n:=⟨_,rfl⟩
 have HN:=Lib.hid hn;rw[hn] at H1 hl1 hl3 ⊢;obtain⟨rb,hrb⟩:∃rb,rb=wB.heap.size:=⟨_,rfl⟩
 obtain⟨fb,hfb⟩:∃fb,fb=w2.heap.size:=⟨_,rfl⟩
 have hRB:rb≠fb:=by have:=(HD1.out.trans hd).size;simp at this;omega
 have HRI:=Lib.hid hri;rw[←hrb,←hfb] at H1;have HBS:=Lib.hid hbs;clear how hoy hd hn hri HD1 HD0 hbs hwB;go_wp2_with fail
 rw[←hfb,show w.heap.size+1=rb by rw[hrb,HBS.out]];clear hrb hfb;refine (hbl.out 8 _ H1.out.st (by omega) (by omega)).mono ?_;rintro e w3 ⟨x,hx0,hx1,rfl,hcur,hg⟩;have HX:=Lib.hid (H1.out.draw hcur hg);have hcb2:cb<w3.heap.size:=HX.out.st.cb_lt;clear hcur hg H1;have kf:=HX.out.2.1;have kf1:=HX.out.2.2.1;obtain⟨kr,kr'⟩:=HX.out.2.2.2.1 (by omega);have hrow:=HX.out.2.2.2.2.1;have q0:w3.cell? ⟨rb,0,none⟩=some (.int .i64 0):=by rw[cell_of_row w3 rb 0 _ _ _ hrow];rfl
 have q1:w3.cell? ⟨rb,1,none⟩=some (.slice none 0 0):=by rw[cell_of_row w3 rb 1 _ _ _ hrow];rfl
 have f0:=frozen_of_row w3 rb 0 _ _ hrow;have f1:=frozen_of_row w3 rb 1 _ _ hrow;clear hrow;have hcase:x=0∨x=1∨1<x:=by omega
 rcases hcase with rfl|rfl|hx3
 ·go_wp2_with fail
  refine (hpi.out _ 3 [-1,3,4] _ (HX.out.below (below_alloc _ _)).st (by omega) (by omega) (by simp;omega) rfl (heap_alloc_new _ _) (by intro x hx;simp at hx;omega)).mono ?_;rintro e2 w4 ⟨y,hy0,hy1,rfl,hcur,hg⟩;have HI4:=Lib.hid ((HX.out.below (below_alloc _ _)).draw hcur hg);have HI5:=Lib.hid (HI4.out.putR (.int .i64 y));clear hcur hg kf kf1 kr kr' q0 q1 f0 f1;have kf:=HI4.out.2.1;obtain⟨kr,kr'⟩:=HI4.out.2.2.2.1 (by omega);have hrow:=HI4.out.2.2.2.2.1;have q0:w4.cell? ⟨rb,0,none⟩=some (.int .i64 0):=by rw[cell_of_row w4 rb 0 _ _ _ hrow];rfl
  have q1:w4.cell? ⟨rb,1,none⟩=some (.slice none 0 0):=by rw[cell_of_row w4 rb 1 _ _ _ hrow];rfl
  have f0:=frozen_of_row w4 rb 0 _ _ hrow;have f1:=frozen_of_row w4 rb 1 _ _ hrow;clear hrow;go_wp2_with fail
  refine bodyPost_ret (v:=.agg #[.int .i64 y,.slice oa n oc]) (by simp[results,Tryz.results77,go_sem,q0,q1]) rfl ?_;obtain⟨g1,g2⟩:=HI5.out.fin (w':=(World.setCell _ ⟨rb,0,none⟩ (.int .i64 y)).setCell ⟨rb,1,none⟩ (.slice oa n oc)) ((OnlyAt.setCell _ _ _ _).same (OnlyAt.setCell _ _ _ _));have hlen:=HN.out;have hsz:=HBB.out.size;exact⟨y,_,_,rfl,⟨hy0,hy1⟩,g1.mono hsz,by omega,by omega,((DSt.start HS.out).below HBB.out).trans g2⟩
 ·go_wp2_with fail
  have qa:=cellk (below_alloc w3 (.cells #[.int .i64 0,.int .i64 2,.int .i64 3,.int .i64 (-1)] 3)) kf
  go_region_law (first
   |(refine step_app1D (by rfl) (.tmp 21) (.tmp 25) 24 (by rfl) 3 (.int .i64 0) 1 8 Tryz.underlying24 info_intD (by decide) (by decide) (by rfl) (.slice oa n oc) n (l.map (Value.int .i64)) (by rfl) (BuiltC.grow HBT.out ((Below.refl _ _).alloc (Nat.le_refl _) _)) w4.heap.size [.int .i64 y] (by rfl) (by simp[Value.oneCell']) (by rfl) (heap_alloc_new w4 _) (by omega) ?_;intro g' cap' w5 hown' ko hbl;have HI5:=Lib.hid ((HI4.out.below (below_alloc w4 _)).step hWs (by rw[HN.out];exact hown') ko (fun b hb=>(hbl b hb).imp id (fun e=>by rw[e];exact Nat.le_refl _)) ⟨hy0,hy1⟩);obtain⟨z1,z2,z3,z6⟩:=(HI4.out.below (below_alloc w4 _)).after ko;obtain⟨z6,z7⟩:=z6 (by omega);have z4:w5.cell? ⟨rb,0,none⟩=some (.int .i64 0):=by { rw[cell_of_row _ rb 0 _ _ _ z3];rfl };have z8:w5.cell? ⟨rb,1,none⟩=some (.slice none 0 0):=by { rw[cell_of_row _ rb 1 _ _ _ z3];rfl };have z5:=frozen_of_row _ rb 0 _ _ z3;have z9:=frozen_of_row _ rb 1 _ _ z3)
   |(go_simp;go_at_call 127;refine (hpi.out _ 4 [0,2,3,-1] _ (HX.out.below ((Below.refl _ _).drew.alloc (Nat.le_refl _) _)).st (by omega) (by omega) (by simp;omega) rfl (heap_alloc_new _ _) (by intro x hx;simp at hx;omega)).mono ?_;rintro e2 w4 ⟨y,hy0,hy1,rfl,hcur,hg⟩;have HI4:=Lib.hid ((HX.out.below ((Below.refl _ _).drew.alloc (Nat.le_refl _) _)).draw hcur hg);obtain⟨W,hWs,hbt⟩:=HI4.out.1.built;rw[Built,HN.out] at hbt;have HBT:=Lib.hid hbt;have qb:=HI4.out.2.1;have qc:=cellk ((Below.refl w4.heap.size w4).alloc (Nat.le_refl _) (.cells #[.int .i64 y] 3)) qb;clear hcur hg hbt))
  all_goals (go_wp2_with fail)
  all_goals
   refine bodyPost_ret (v:=.agg #[.int .i64 r,.slice (some ⟨g',0,none⟩) (n+1) cap']) (by simp[results,Tryz.results77,go_sem,z4,z8]) rfl ?_;obtain⟨g1,g2⟩:=HI5.out.fin (w':=(World.setCell _ ⟨rb,0,none⟩ (.int .i64 r)).setCell ⟨rb,1,none⟩ (.slice (some ⟨g',0,none⟩) (n+1) cap')) ((OnlyAt.setCell _ _ _ _).same (OnlyAt.setCell _ _ _ _));have hlen:=HN.out;have hsz:=HBB.out.size;exact⟨r,_,_,rfl,HRI.out,g1.mono hsz,by simp,by simp;omega,((DSt.start HS.out).below HBB.out).trans g2⟩
 ·have p0:decide (x=0)=false:=decide_eq_false (by omega);have p1:decide (x=1)=false:=decide_eq_false (by omega);have p0':(x==0)=false:=by simp;omega
  have p1':(x==1)=false:=by simp;omega
  go_wp2_with fail
  refine bodyPost_ret (v:=.agg #[.int .i64 r,.slice oa n oc]) (by simp[results,Tryz.results77,go_sem,q0,q1]) rfl ?_;obtain⟨g1,g2⟩:=HX.out.fin (w':=(World.setCell _ ⟨rb,0,none⟩ (.int .i64 r)).setCell ⟨rb,1,none⟩ (.slice oa n oc)) ((OnlyAt.setCell _ _ _ _).same (OnlyAt.setCell _ _ _ _));have hlen:=HN.out;have hsz:=HBB.out.size;exact⟨r,_,_,rfl,HRI.out,g1.mono hsz,by omega,by omega,((DSt.start HS.out).below HBB.out).trans g2⟩
end Go.Proofs.YtpedpbbiamhgdaaGreatDoor
