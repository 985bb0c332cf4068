import Derived.Test.YtpedpbbiamhgdaaGreatDoorDrawAll
import Derived.Test.YtpedpbbiamhgdaaGreatDoorS5all
import Derived.Test.YtpedpbbiamhgdaaGreatDoorBase
namespace Go.Proofs.YtpedpbbiamhgdaaGreatDoor
open Go Go.Sort Go.RowKit
set_option linter.unusedVariables false
def SI (w0:World) (RB:Obj) (x0:Value) (rb fb o:Nat) (w:World) (xv:Value) (l:List Int) (S:Value) (len cb:Nat):Prop:=
 OwI w0.heap.size w xv l∧w.cell? ⟨fb,o,none⟩=some xv∧w.frozen? ⟨fb,o,none⟩=false∧(o≠0→w.cell? ⟨fb,0,none⟩=some x0∧w.frozen? ⟨fb,0,none⟩=false)∧w.heap[rb]?=some RB∧(∀b∈blk xv,b≠fb∧b≠rb)∧
  (w0.heap.size≤fb∧fb<w.heap.size∧w0.heap.size≤rb∧rb≠fb)∧DSt w0 w S len cb
section
variable {w0 w w':World} {RB:Obj} {x0:Value} {rb fb o:Nat} {xv:Value} {l:List Int} {S:Value} {len cb:Nat}
theorem heap_lt {w:World} {b:Nat} {u:Obj} (h:w.heap[b]?=some u):b<w.heap.size:=(Array.getElem?_eq_some_iff.1 h).1
theorem SI.only {bs:List Nat} (h:SI w0 RB x0 rb fb o w xv l S len cb) (k:OnlyAt bs w w') (hn:∀b∈bs,b∉blk xv∧b≠fb∧b≠rb) (hd:DSt w0 w' S len cb):SI w0 RB x0 rb fb o w' xv l S len cb:=by
 obtain⟨h1,h2,h3,h4,h5,h6,h7,h8⟩:=h;have hfb:fb∉bs:=fun hm=>(hn _ hm).2.1 rfl
 have hrb:rb∉bs:=fun hm=>(hn _ hm).2.2 rfl
 exact⟨h1.only k (fun b hb hm=>(hn b hm).1 hb),k.cell hfb h2,k.frozen h7.2.1 hfb h3,fun ho=>⟨k.cell hfb (h4 ho).1,k.frozen h7.2.1 hfb (h4 ho).2⟩,by rw[k.block rb (heap_lt h5) hrb];exact h5,h6,⟨h7.1,Nat.lt_of_lt_of_le h7.2.1 k.size,h7.2.2⟩,hd⟩
theorem SI.draw (h:SI w0 RB x0 rb fb o w xv l S len cb) (hc:Cur w' S len cb) (hg:w.grownBy w' (some cb)):SI w0 RB x0 rb fb o w' xv l S len cb:=by
 have hlt:=h.2.2.2.2.2.2.2.lt;have h7:=h.2.2.2.2.2.2.1;exact h.only (grownBy_only hg) (fun b hb=>by simp at hb;subst hb;exact⟨fun hm=>by have:=h.1.lo _ hm;omega,by omega,by omega⟩) (h.2.2.2.2.2.2.2.draw hc hg)
theorem SI.below (h:SI w0 RB x0 rb fb o w xv l S len cb) (hb:Below w.heap.size w w'):SI w0 RB x0 rb fb o w' xv l S len cb:=
 h.only (OnlyAt.ofBelow [] hb) (fun b hm=>by simp at hm) (h.2.2.2.2.2.2.2.below hb)
theorem SI.st (h:SI w0 RB x0 rb fb o w xv l S len cb):St w S len cb:=h.2.2.2.2.2.2.2.st
theorem SI.put {xv1:Value} {l1:List Int} (h:SI w0 RB x0 rb fb o w xv l S len cb) (ho:OwI w0.heap.size w xv1 l1) (hb:∀b∈blk xv1,b≠fb∧b≠rb):SI w0 RB x0 rb fb o (w.setCell ⟨fb,o,none⟩ xv1) xv1 l1 S len cb:=by
 obtain⟨h1,h2,h3,h4,h5,h6,h7,h8⟩:=h;have k:=OnlyAt.setCell w fb o xv1;refine⟨ho.only k (fun b hm=>by simpa using (hb b hm).1),World.cell?_setCell_same _ _ _ h2,by rw[World.frozen?_setCell];exact h3,fun hne=>⟨?_,by rw[World.frozen?_setCell];exact (h4 hne).2⟩,by rw[k.block rb (heap_lt h5) (by simpa using h7.2.2.2)];exact h5,hb,⟨h7.1,Nat.lt_of_lt_of_le h7.2.1 k.size,h7.2.2⟩,h8.only k (fun b hm=>by simp at hm;omega)⟩;rw[World.cell?_setCell_other _ _ _ _ (by intro e;cases e;exact hne rfl)];exact (h4 hne).1
theorem SI.step {W w3:World} {v':Value} {x:Int} (h:SI w0 RB x0 rb fb o w xv l S len cb) (hW:W.heap.size=w0.heap.size)
  (h':BuiltC 3 1 W w3 v' (l.length+1) (l.map (Value.int .i64)++[.int .i64 x])) (ko:OnlyAt (blk xv) w w3) (hv':∀b∈blk v',b∈blk xv∨w.heap.size≤b) (hx:inI x) :
  SI w0 RB x0 rb fb o (w3.setCell ⟨fb,o,none⟩ v') v' (l++[x]) S len cb:=by
 have hlo:=h.1.lo;have ho:OwI w0.heap.size w3 v' (l++[x]):=OwI.of (Built.ofC h') (by omega) (fun y hy=>(List.mem_append.1 hy).elim (h.1.2.2 y) (fun hy=>by simp at hy;rw[hy];exact hx));obtain⟨h1,h2,h3,h4,h5,h6,h7,h8⟩:=h;have hd3:DSt w0 w3 S len cb:=h8.only ko (fun b hb=>(hlo b hb).1);have hrlt:=heap_lt h5;have hnf:fb∉blk xv:=fun hm=>(h6 _ hm).1 rfl
 have hnr:rb∉blk xv:=fun hm=>(h6 _ hm).2 rfl
 have hb':∀b∈blk v',b≠fb∧b≠rb:=fun b hb=>by
  rcases hv' b hb with hm|hm
  ·exact h6 b hm
  ·omega
 have k:=OnlyAt.setCell w3 fb o v';have hfl:fb<w3.heap.size:=Nat.lt_of_lt_of_le h7.2.1 ko.size;refine⟨ho.only k (fun b hm=>by simpa using (hb' b hm).1),World.cell?_setCell_same _ _ _ (ko.cell hnf h2),by rw[World.frozen?_setCell];exact ko.frozen h7.2.1 hnf h3,fun hne=>⟨?_,by rw[World.frozen?_setCell];exact ko.frozen h7.2.1 hnf (h4 hne).2⟩,?_,hb',⟨h7.1,Nat.lt_of_lt_of_le hfl k.size,h7.2.2⟩,hd3.only k (fun b hm=>by simp at hm;omega)⟩
 ·rw[World.cell?_setCell_other _ _ _ _ (by intro e;cases e;exact hne rfl)];exact ko.cell hnf (h4 hne).1
 ·rw[k.block rb (Nat.lt_of_lt_of_le hrlt ko.size) (by simpa using h7.2.2.2),ko.block rb hrlt hnr];exact h5
theorem SI.after {w3:World} (h:SI w0 RB x0 rb fb o w xv l S len cb) (ko:OnlyAt (blk xv) w w3):w3.cell? ⟨fb,o,none⟩=some xv∧w3.frozen? ⟨fb,o,none⟩=false∧w3.heap[rb]?=some RB∧(o≠0→w3.cell? ⟨fb,0,none⟩=some x0∧w3.frozen? ⟨fb,0,none⟩=false):=by
 obtain⟨h1,h2,h3,h4,h5,h6,h7,h8⟩:=h;have hnf:fb∉blk xv:=fun hm=>(h6 _ hm).1 rfl
 have hnr:rb∉blk xv:=fun hm=>(h6 _ hm).2 rfl
 exact⟨ko.cell hnf h2,ko.frozen h7.2.1 hnf h3,by rw[ko.block rb (heap_lt h5) hnr];exact h5,fun ho=>⟨ko.cell hnf (h4 ho).1,ko.frozen h7.2.1 hnf (h4 ho).2⟩⟩
theorem SI.start {w1:World} {cs:Array Value} {T:TypeId} (hS:St w S len cb) (hd:DSt (w.alloc RB) w1 S len cb) (ho:OwI w.heap.size w1 xv l) (hb:∀b∈blk xv,b≠w.heap.size) (hx:cs[o]?=some xv) (h0:o≠0→cs[0]?=some x0) :
  SI w RB x0 w.heap.size w1.heap.size o (w1.alloc (.cells cs T)) xv l S len cb:=by
 have hcb:=hS.cb_lt;have hsz:=hd.size;have hsa:(w.alloc RB).heap.size=w.heap.size+1:=by simp
 have hrow:(w1.alloc (.cells cs T)).heap[w1.heap.size]?=some (.cells cs T (0,0)):=heap_alloc_new w1 _;have hba:=below_alloc w1 (.cells cs T);refine⟨ho.below hba,?_,frozen_of_row _ _ o _ _ hrow,fun hne=>⟨?_,frozen_of_row _ _ 0 _ _ hrow⟩,?_,fun b hm=>⟨?_,hb b hm⟩,⟨by omega,by simp,Nat.le_refl _,by omega⟩,(((DSt.start hS).below (below_alloc w RB)).trans hd).below hba⟩
 ·rw[cell_of_row _ _ o _ _ _ hrow];exact hx
 ·rw[cell_of_row _ _ 0 _ _ _ hrow];exact h0 hne
 ·rw[hba.block _ (by omega),hd.2.1.block _ (by omega) (by simp;omega)];exact heap_alloc_new w RB
 ·have:=(ho.lo b hm).2;omega
theorem SI.fin (h:SI w0 RB x0 rb fb o w xv l S len cb) (k:OnlyAt [rb] w w'):OwI w0.heap.size w' xv l∧DSt w0 w' S len cb:=
 ⟨h.1.only k (fun b hb hm=>by simp at hm;exact (h.2.2.2.2.2.1 b hb).2 hm),h.2.2.2.2.2.2.2.only k (fun b hm=>by simp at hm;have:=h.2.2.2.2.2.2.1;omega)⟩
end
def DrewI (lo hi:Nat) (w:World) (S:Value) (len cb:Nat) (e:Ending) (w':World):Prop:=
 ∃xv l,e=.returned (.agg #[xv])∧OwI w.heap.size w' xv l∧lo≤l.length∧l.length≤hi∧DSt w w' S len cb
set_option maxRecDepth 100000 in
set_option maxHeartbeats 8000000 in
theorem l3Schema_any (w:World) (S:Value) (len cb:Nat) (h:St w S len cb) :
  Calls Tryz.prog 99 #[.pointer (some ⟨cb,0,none⟩)] w (DrewI 1 3 w S len cb):=by
 have hbl:=Lib.hid (fun n w h h0 h1=>l1Below_any n w S len cb h h0 h1);have HS:=Lib.hid h;have hcb:=h.cb_lt;obtain⟨W1,hW1⟩:∃W1,W1=(((w.alloc (.cells #[.slice none 0 0] 26)).alloc (.cells #[.int .i64 2] 3)).alloc (.cells #[.slice (some ⟨w.heap.size+1,0,none⟩) 1 1] 26)):=⟨_,rfl⟩
 have hS1:SI w (.cells #[.slice none 0 0] 26 (0,0)) (.slice none 0 0) w.heap.size (w.heap.size+2) 0 W1 (.slice (some ⟨w.heap.size+1,0,none⟩) 1 1) [2] S len cb:=by
  have e1:OwI w.heap.size ((w.alloc (.cells #[.slice none 0 0] 26)).alloc (.cells #[.int .i64 2] 3)) (.slice (some ⟨w.heap.size+1,0,none⟩) 1 1) [2]:=by
   have:=OwI.lit w.heap.size (w.alloc (.cells #[.slice none 0 0] 26)) [2] (by simp) (by decide) (fun x hx=>by simp at hx;subst hx;unfold inI;omega);simpa using this
  have hb:Below w.heap.size w W1:=by rw[hW1];exact (((Below.refl _ _).alloc (Nat.le_refl _) _).alloc (by simp) _).alloc (by simp;omega) _
  have hr0:W1.heap[w.heap.size]?=some (.cells #[.slice none 0 0] 26 (0,0)):=by
   have hb1:=(below_alloc (w.alloc (.cells #[.slice none 0 0] 26)) (.cells #[.int .i64 2] 3));have hb2:=bnext hb1 (below_alloc _ (.cells #[.slice (some ⟨w.heap.size+1,0,none⟩) 1 1] 26));rw[hW1,hb2.block _ (by simp)];exact heap_alloc_new w _
  have hf2:W1.heap[w.heap.size+2]?=some (.cells #[.slice (some ⟨w.heap.size+1,0,none⟩) 1 1] 26 (0,0)):=by
   have:=heap_alloc_new ((w.alloc (.cells #[.slice none 0 0] 26)).alloc (.cells #[.int .i64 2] 3)) (.cells #[.slice (some ⟨w.heap.size+1,0,none⟩) 1 1] 26);rw[hW1];simpa using this
  refine⟨?_,?_,?_,fun hne=>absurd rfl hne,?_,?_,?_,(DSt.start h).below hb⟩
  ·rw[hW1];exact e1.below (below_alloc _ _)
  ·rw[cell_of_row W1 _ 0 _ _ _ hf2];rfl
  ·exact frozen_of_row W1 _ 0 _ _ hf2
  ·exact hr0
  ·simp[blk]
  ·rw[hW1];simp
 have H1:=Lib.hid hS1;clear h hS1;go_enter Tryz.func99,Tryz.ntmps99
 go_wp2_with fail
 obtain⟨fb,hfb⟩:∃fb,fb=w.heap.size+1+1:=⟨_,rfl⟩
 obtain⟨rb,hrb⟩:∃rb,rb=w.heap.size:=⟨_,rfl⟩
 obtain⟨xv,hxv⟩:∃xv,xv=(.slice (some ⟨w.heap.size+1,0,none⟩) 1 1:Value):=⟨_,rfl⟩
 rw[←hW1,←hfb];refine (hbl.out 3 _ H1.out.st (by omega) (by omega)).mono ?_;rintro e w1 ⟨x,hx0,hx1,rfl,hcur,hg⟩;have H2:=Lib.hid (H1.out.draw hcur hg);rw[←hxv] at H2;have e2:w.heap.size+2=fb:=hfb.symm;rw[e2] at H2;rw[←hrb] at H2 ⊢;obtain⟨x,rfl⟩:=Int.eq_ofNat_of_zero_le hx0;have hRB:rb≠fb:=by omega
 clear hcur hg hW1 hx0 H1 hfb e2 hrb hxv;go_wp2_with fail
 go_loopw [4,5] (fun nv _ wr=>∃(k:Nat) (ov:Value) (l:List Int),nv=.int .i64 k∧1≤l.length∧k+l.length≤3∧Hid (SI w (.cells #[.slice none 0 0] 26 (0,0)) (.slice none 0 0) rb fb 0 wr ov l S len cb)) (fun nv _ _=>(intOf nv).toNat)
 case atStart=>exact⟨x,xv,[2],rfl,by simp,by simp;omega,H2⟩
 case round=>
  obtain⟨k,ov,l,rfl,hl1,hl3,HI⟩:=hrel;by_cases hk0:0<k
  ·go_wp2_with fail
   refine (hbl.out 3 _ HI.out.st (by omega) (by omega)).mono ?_;rintro e w3 ⟨y,hy0,hy1,rfl,hcur,hg⟩;have HI3:=Lib.hid (HI.out.draw hcur hg);have kf:=HI3.out.2.1;obtain⟨W,hWs,hbt⟩:=HI3.out.1.built;have HBT:=Lib.hid hbt;clear hcur hg hbt;go_wp2_with (at_builtin;refine wpList_app1D rfl (.tmp 18) (.tmp 20) 24 rfl 3 (.int .i64 0) 1 8 Tryz.underlying24 info_intD (by decide) (by decide) (by rfl) ov l.length (l.map (Value.int .i64)) rfl HBT.out [.int .i64 (1+y)] rfl (by simp[Value.oneCell']) (by first|rfl|(simp;rfl)) (by omega) ?_)
   intro v' w4 hown' ko hbl;rcases hown'.form with⟨_,h0⟩|⟨g4,c4,rfl,_,_⟩
   ·omega
   have HI4:=Lib.hid (HI3.out.step hWs hown' ko hbl (by unfold inI;omega))
   obtain⟨kc,kz⟩:(∃u,w4.cell? ⟨fb,0,none⟩=some u)∧w4.frozen? ⟨fb,0,none⟩=false:=by
    have hnf:fb∉blk ov:=fun hm=>(HI3.out.2.2.2.2.2.1 _ hm).1 rfl
    exact⟨⟨_,ko.cell hnf HI3.out.2.1⟩,ko.frozen HI3.out.2.2.2.2.2.2.1.2.1 hnf HI3.out.2.2.1⟩
   obtain⟨u,kc⟩:=kc;clear hown' ko hbl kf HI3 HBT;go_wp2_with fail
   exact⟨⟨k-1,_,l++[1+y],by rw[show ((k:Int)-1)=((k-1:Nat):Int) from by omega],by simp,by simp;omega,HI4⟩,by simp[intOf];omega⟩
  ·obtain rfl:k=0:=by omega
   have kf:=HI.out.2.1;have kr0:wr.cell? ⟨rb,0,none⟩=some (.slice none 0 0):=by rw[cell_of_row wr rb 0 _ _ _ HI.out.2.2.2.2.1];rfl
   have kr1:=frozen_of_row wr rb 0 _ _ HI.out.2.2.2.2.1;obtain⟨oa,oc,rfl⟩:=HI.out.1.shape;go_wp2_with fail
   have ko:=OnlyAt.setCell wr rb 0 (.slice oa l.length oc);refine bodyPost_ret (v:=.agg #[.slice oa l.length oc]) (by simp[results,Tryz.results99,go_sem,kr0]) rfl ?_;refine⟨_,l,rfl,HI.out.1.only ko (fun b hb hm=>by simp at hm;exact (HI.out.2.2.2.2.2.1 b hb).2 hm),hl1,by omega,HI.out.2.2.2.2.2.2.2.only ko (fun b hm=>by simp at hm;have:=HI.out.2.2.2.2.2.2.1;omega)⟩
def SafeI (base:Nat) (w:World) (e:Ending) (w':World):Prop:=
 ∃xv l,e=.returned (.agg #[xv])∧OwI base w' xv l∧isSchemaB l=true∧Below w.heap.size w w'
set_option maxHeartbeats 4000000 in
theorem l4Safe_any (w:World) (base:Nat) (xv:Value) (l:List Int) (h:OwI base w xv l) :
  Calls Tryz.prog 75 #[.agg #[xv]] w (SafeI base w):=by
 have hs:=Lib.hid (fun w' h=>sIsSchema_any w' xv l h);obtain⟨a,c,rfl⟩:=h.shape;have H:=Lib.hid h;have hbs:=Lib.hid h.2.1;obtain⟨n,hn⟩:∃n,l.length=n:=⟨_,rfl⟩
 rw[hn] at hs H ⊢;clear h;have hb0:∀o p,Below w.heap.size w ((w.alloc o).alloc p):=fun o p=>((Below.refl _ _).alloc (Nat.le_refl _) _).alloc (by simp) _
 have HB0:=Lib.hid hb0;clear hb0
 cases hq:isSchemaB l with
 |true=>
  have HQ:=Lib.hid hq;rw[hq] at hs;clear hq;go_enter Tryz.func75,Tryz.ntmps75
  go_wp2_with fail
  refine (hs.out _ (H.out.below (HB0.out _ _)).ints).mono ?_;rintro e w1 ⟨rfl,hb⟩;have kb:=cellk hb (b:=w.heap.size) (o:=0) (v:=.slice a n c) (by simp);have kr:=cellk hb (b:=w.heap.size+1) (o:=0) (v:=.slice none 0 0) (by simp);have kf:=(frok hb (b:=w.heap.size+1) (o:=0) (v:=.slice none 0 0) (by simp) (by simp));have HB:=Lib.hid (bnext (HB0.out _ _) hb);have hsz:w.heap.size+1<w1.heap.size:=by have:=hb.size;simp at this;omega
  clear hb;go_wp2_with fail
  have H1:=H.out.below HB.out;have ko:=OnlyAt.setCell w1 (w.heap.size+1) 0 (.slice a n c);refine bodyPost_ret (v:=.agg #[.slice a n c]) (by simp[results,Tryz.results75,go_sem,kr]) rfl ⟨_,l,rfl,H1.only ko (fun b hb hm=>?_),HQ.out,HB.out.setCell (by simp) _⟩;simp at hm;have:=H.out.lo b hb;omega
 |false=>
  rw[hq] at hs;clear hq;go_enter Tryz.func75,Tryz.ntmps75
  go_wp2_with fail
  refine (hs.out _ (H.out.below (HB0.out _ _)).ints).mono ?_;rintro e w1 ⟨rfl,hb⟩;have kb:=cellk hb (b:=w.heap.size) (o:=0) (v:=.slice a n c) (by simp);have kr:=cellk hb (b:=w.heap.size+1) (o:=0) (v:=.slice none 0 0) (by simp);have kf:=(frok hb (b:=w.heap.size+1) (o:=0) (v:=.slice none 0 0) (by simp) (by simp));have HB:=Lib.hid (bnext (HB0.out _ _) hb);have hsz:w.heap.size+1<w1.heap.size:=by have:=hb.size;simp at this;omega
  clear hb;go_wp2_with fail
  obtain⟨wb,hwb⟩:∃wb,wb=w1.setCell ⟨w.heap.size+1,0,none⟩ (.slice (some ⟨w1.heap.size,0,none⟩) 2 2):=⟨_,rfl⟩
  have hbs2:wb.heap.size=w1.heap.size:=by rw[hwb];simp[World.setCell]
  have z0:wb.cell? ⟨w.heap.size+1,0,none⟩=some (.slice (some ⟨w1.heap.size,0,none⟩) 2 2):=by rw[hwb];exact World.cell?_setCell_same _ _ _ kr
  have HBb:Below w.heap.size w wb:=by rw[hwb];exact HB.out.setCell (by simp) _
  have z1:=cellk (below_alloc wb (.cells #[.int .i64 2,.int .i64 1] 3)) z0;have H1:=OwI.lit base wb [2,1] (Nat.le_trans hbs.out HBb.size) (by decide) (fun x hx=>by simp at hx;unfold inI;omega);rw[←hwb];rw[hbs2] at H1;exact bodyPost_ret (v:=.agg #[.slice (some ⟨w1.heap.size,0,none⟩) 2 2]) (by simp[results,Tryz.results75,go_sem,z1]) rfl ⟨_,[2,1],rfl,H1,by decide,HBb.alloc (by have:=HBb.size;omega) _⟩
set_option maxRecDepth 100000 in
set_option maxHeartbeats 8000000 in
theorem l3Any_any (w:World) (S:Value) (len cb:Nat) (h:St w S len cb) :
  Calls Tryz.prog 105 #[.pointer (some ⟨cb,0,none⟩)] w (DrewI 0 5 w S len cb):=by
 have hbl:=Lib.hid (fun n w h h0 h1=>l1Below_any n w S len cb h h0 h1);have hsc:=Lib.hid (fun w h=>l3Schema_any w S len cb h);have hpi:=Lib.hid (fun g n xs w h hn0 hn1 hg hx hc hr=>l1PickInt_any g n xs w S len cb h hn0 hn1 hg hx hc hr);have HS:=Lib.hid h;have hcb:=h.cb_lt;clear h;go_enter Tryz.func105,Tryz.ntmps105
 go_wp2_with fail
 refine (hsc.out _ (HS.out.alloc _)).mono ?_;rintro e w1 ⟨xv,l,rfl,how,hl1,hl3,hd⟩;have hsa:(w.alloc (.cells #[.slice none 0 0] 26)).heap.size=w.heap.size+1:=by simp
 have hne:∀b∈blk xv,b≠w.heap.size:=fun b hb=>by have:=(how.lo b hb).1;omega
 have H1:=Lib.hid (SI.start (cs:=#[xv]) (T:=26) (o:=0) (x0:=.slice none 0 0) HS.out hd (how.mono (by omega)) hne rfl (fun h=>absurd rfl h));obtain⟨oa,oc,rfl⟩:=how.shape;obtain⟨n,hn⟩:∃n,l.length=n:=⟨_,rfl⟩
 have HN:=Lib.hid hn;rw[hn] at H1 hl3 ⊢;obtain⟨rb,hrb⟩:∃rb,rb=w.heap.size:=⟨_,rfl⟩
 obtain⟨fb,hfb⟩:∃fb,fb=w1.heap.size:=⟨_,rfl⟩
 have hRB:rb≠fb:=by have:=hd.size;omega
 rw[←hrb,←hfb] at H1;clear how hd hne hsa hl1 hn;go_wp2_with fail
 rw[←hrb,←hfb];clear hrb hfb;refine (hbl.out 10 _ H1.out.st (by omega) (by omega)).mono ?_;rintro e w2 ⟨x,hx0,hx1,rfl,hcur,hg⟩;have HX:=Lib.hid (H1.out.draw hcur hg);have hcb2:cb<w2.heap.size:=HX.out.st.cb_lt;clear hcur hg H1;have kf:=HX.out.2.1;have kf1:=HX.out.2.2.1;have kr0:w2.cell? ⟨rb,0,none⟩=some (.slice none 0 0):=by rw[cell_of_row _ rb 0 _ _ _ HX.out.2.2.2.2.1];rfl
 have kr1:=frozen_of_row w2 rb 0 _ _ HX.out.2.2.2.2.1;have hcase:x=0∨x=1∨x=2∨2<x:=by omega
 rcases hcase with rfl|rfl|rfl|hx3
 ·go_wp2_with fail
  have q0:=cellk (below_alloc w2 (.cells #[.int .i64 0,.int .i64 3,.int .i64 4] 3)) kf
  go_region_law (first
   |(refine step_app1D (by rfl) (.tmp 11) (.tmp 15) 24 (by rfl) 3 (.int .i64 0) 1 8 Tryz.underlying24 info_intD (by decide) (by decide) (by rfl) (.slice oa n oc) n (l.map (Value.int .i64)) (by rfl) (BuiltC.grow HBT.out ((Below.refl _ _).alloc (Nat.le_refl _) _)) w4.heap.size [.int .i64 y] (by rfl) (by simp[Value.oneCell']) (by rfl) (heap_alloc_new w4 _) (by omega) ?_;intro g' cap' w5 hown' ko hbl;have HI5:=Lib.hid ((HI4.out.below (below_alloc w4 _)).step hWs (by rw[HN.out];exact hown') ko (fun b hb=>(hbl b hb).imp id (fun e=>by rw[e];exact Nat.le_refl _)) ⟨hy0,hy1⟩);obtain⟨z1,z2,z3,_⟩:=(HI4.out.below (below_alloc w4 _)).after ko;have z4:=cell_of_row _ rb 0 _ _ _ z3;have z5:=frozen_of_row _ rb 0 _ _ z3)
   |(go_simp;go_at_call 127;refine (hpi.out _ 3 [0,3,4] _ (HX.out.below ((Below.refl _ _).drew.alloc (Nat.le_refl _) _)).st (by omega) (by omega) (by simp;omega) rfl (heap_alloc_new _ _) (by intro x hx;simp at hx;omega)).mono ?_;rintro e2 w4 ⟨y,hy0,hy1,rfl,hcur,hg⟩;have HI4:=Lib.hid ((HX.out.below ((Below.refl _ _).drew.alloc (Nat.le_refl _) _)).draw hcur hg);obtain⟨W,hWs,hbt⟩:=HI4.out.1.built;rw[Built,HN.out] at hbt;have HBT:=Lib.hid hbt;have q1:=HI4.out.2.1;have q2:=cellk ((Below.refl w4.heap.size w4).alloc (Nat.le_refl _) (.cells #[.int .i64 y] 3)) q1;clear hcur hg hbt))
  all_goals (go_wp2_with fail)
  all_goals
   refine bodyPost_ret (v:=.agg #[.slice (some ⟨g',0,none⟩) (n+1) cap']) (by simp[results,Tryz.results105,go_sem,z4]) rfl ?_;obtain⟨f1,f2⟩:=HI5.out.fin (OnlyAt.setCell _ rb 0 (.slice (some ⟨g',0,none⟩) (n+1) cap'));exact⟨_,_,rfl,f1,Nat.zero_le _,by have:=HN.out;simp;omega,f2⟩
 ·have HI5:=Lib.hid (HX.out.put (OwI.nil w.heap.size w2 (by have:=HX.out.2.2.2.2.2.2.2.size;omega)) (fun b hb=>by simp[blk] at hb));go_wp2_with fail
  refine bodyPost_ret (v:=.agg #[.slice none 0 0]) (by simp[results,Tryz.results105,go_sem,kr0]) rfl ?_;obtain⟨f1,f2⟩:=HI5.out.fin (OnlyAt.setCell _ rb 0 (.slice none 0 0));exact⟨_,_,rfl,f1,Nat.zero_le _,by simp,f2⟩
 ·have hfl:fb<w2.heap.size:=HX.out.2.2.2.2.2.2.1.2.1;have hrl:rb<w2.heap.size:=heap_lt HX.out.2.2.2.2.1;have hwl:w.heap.size≤w2.heap.size:=HX.out.2.2.2.2.2.2.2.size;have HI5:=Lib.hid ((HX.out.below (below_alloc w2 (.cells #[.int .i64 1,.int .i64 2,.int .i64 3,.int .i64 1,.int .i64 2] 3))).put (xv1:=.slice (some ⟨w2.heap.size,0,none⟩) 5 5) (OwI.lit w.heap.size w2 [1,2,3,1,2] hwl (by decide) (fun x hx=>by simp at hx;unfold inI;omega)) (fun b hb=>by simp[blk] at hb;omega));go_wp2_with fail
  have e:((w2.setCell ⟨fb,0,none⟩ (.slice (some ⟨w2.heap.size,0,none⟩) 5 5)).setCell ⟨rb,0,none⟩ (.slice (some ⟨w2.heap.size,0,none⟩) 5 5)).alloc (.cells #[.int .i64 1,.int .i64 2,.int .i64 3,.int .i64 1,.int .i64 2] 3)=((w2.alloc (.cells #[.int .i64 1,.int .i64 2,.int .i64 3,.int .i64 1,.int .i64 2] 3)).setCell ⟨fb,0,none⟩ (.slice (some ⟨w2.heap.size,0,none⟩) 5 5)).setCell ⟨rb,0,none⟩ (.slice (some ⟨w2.heap.size,0,none⟩) 5 5):=by
   rw[World.setCell_alloc_past _ _ _ _ hfl,World.setCell_alloc_past _ _ _ _ (by simpa[World.setCell] using hrl)]
  have z2:(((w2.setCell ⟨fb,0,none⟩ (.slice (some ⟨w2.heap.size,0,none⟩) 5 5)).setCell ⟨rb,0,none⟩ (.slice (some ⟨w2.heap.size,0,none⟩) 5 5)).alloc (.cells #[.int .i64 1,.int .i64 2,.int .i64 3,.int .i64 1,.int .i64 2] 3)).cell? ⟨rb,0,none⟩=some (.slice (some ⟨w2.heap.size,0,none⟩) 5 5):=by
   have k5:(w2.setCell ⟨fb,0,none⟩ (.slice (some ⟨w2.heap.size,0,none⟩) 5 5)).cell? ⟨rb,0,none⟩=some (.slice none 0 0):=by
    rw[World.cell?_setCell_other _ _ _ _ (by intro e;cases e;exact hRB rfl)];exact kr0
   exact cellk (below_alloc _ _) (World.cell?_setCell_same _ _ _ k5)
  refine bodyPost_ret (v:=.agg #[(.slice (some ⟨w2.heap.size,0,none⟩) 5 5)]) (by simp[results,Tryz.results105,go_sem,z2]) rfl ?_;rw[e];obtain⟨f1,f2⟩:=HI5.out.fin (OnlyAt.setCell _ rb 0 (.slice (some ⟨w2.heap.size,0,none⟩) 5 5));exact⟨_,_,rfl,f1,Nat.zero_le _,by decide,f2⟩
 ·have q0:(x==0)=false:=by simp;omega
  have q1:(x==1)=false:=by simp;omega
  have q2:(x==2)=false:=by simp;omega
  have q0':decide (x=0)=false:=decide_eq_false (by omega);have q1':decide (x=1)=false:=decide_eq_false (by omega);have q2':decide (x=2)=false:=decide_eq_false (by omega);go_wp2_with fail
  refine bodyPost_ret (v:=.agg #[.slice oa n oc]) (by simp[results,Tryz.results105,go_sem,kr0]) rfl ?_;obtain⟨f1,f2⟩:=HX.out.fin (OnlyAt.setCell _ rb 0 (.slice oa n oc));exact⟨_,_,rfl,f1,Nat.zero_le _,by have:=HN.out;omega,f2⟩
theorem schema_len {s:List Int} (h:isSchemaB s=true):1≤s.length∧s.length≤4:=by
 unfold isSchemaB at h;rw[Bool.and_eq_true] at h;have:=h.2;unfold inB at this;simp at this;omega
theorem schema_at {s:List Int} (h:isSchemaB s=true) {j:Nat} (hj:j<s.length):1≤s.getD j 0∧s.getD j 0≤3:=by
 unfold isSchemaB at h;rw[Bool.and_eq_true,List.all_eq_true] at h;have:=h.1 _ (getD_mem hj);generalize s.getD j 0=x at *;unfold inB at this;simp at this;omega
theorem OwI.at {base:Nat} {w:World} {a:Option Addr} {n c:Nat} {l:List Int} (h:OwI base w (.slice a n c) l) (hn:l.length=n) (h0:0<n):∃g,a=some ⟨g,0,none⟩∧base≤g∧n≤c∧c≤maxLen∧∀j,j<n→w.cell? ⟨g,j,none⟩=some (.int .i64 (l.getD j 0)):=by
 rcases h.1.2 with⟨e,h4⟩|⟨g,cap,cur,e,h4,hg,h5,h6,h7,h8⟩
 ·omega
 ·cases e;refine⟨g,rfl,h4,h5,h6,fun j hj=>?_⟩;have:=World.ownsRow.cellAt h.1 j (by omega);rw[this];simp[List.getD,List.getElem?_eq_getElem (by omega:j<l.length)]
def DrewF (lo hi:Nat) (w:World) (S:Value) (len cb:Nat) (e:Ending) (w':World):Prop:=
 ∃(r:Int) (xv:Value) (l:List Int),e=.returned (.agg #[.int .i64 r,xv])∧inI r∧OwI w.heap.size w' xv l∧lo≤l.length∧l.length≤hi∧DSt w w' S len cb
set_option maxRecDepth 100000 in
set_option maxHeartbeats 8000000 in
theorem l5Fact_any (w:World) (S:Value) (len cb:Nat) (base:Nat) (sv:Value) (s:List Int) (h:St w S len cb) (hv:OwI base w sv s) (hcb:cb<base) (hs:isSchemaB s=true) :
  Calls Tryz.prog 148 #[.pointer (some ⟨cb,0,none⟩),.agg #[sv]] w (DrewF 1 3 w S len cb):=by
 have hbl:=Lib.hid (fun n w h h0 h1=>l1Below_any n w S len cb h h0 h1);have HS:=Lib.hid h;have HV:=Lib.hid hv;have hcbw:=h.cb_lt;obtain⟨sa,sc,rfl⟩:=hv.shape;obtain⟨sn,hsn⟩:∃n,s.length=n:=⟨_,rfl⟩
 obtain⟨hs1,hs2⟩:=schema_len hs;have HAT:=Lib.hid (fun j (hj:j<s.length)=>schema_at hs hj);rw[hsn] at HV hs1 hs2 ⊢;obtain⟨sg,rfl,hsg,hsc,hsm,hcell⟩:=HV.out.at hsn (by omega);unfold maxLen at hsm;have HSN:=Lib.hid hsn;obtain⟨wB,hwB⟩:∃wB,wB=w.alloc (.cells #[.slice (some ⟨sg,0,none⟩) sn sc] 26):=⟨_,rfl⟩
 have HBB:Hid (Below w.heap.size w wB):=by rw[hwB];exact below_alloc w _
 have hSB:St wB S len cb:=by rw[hwB];exact h.alloc _
 have HSB:=Lib.hid hSB;have hbs:wB.heap.size=w.heap.size+1:=by rw[hwB];simp
 have KB:Hid (wB.cell? ⟨w.heap.size,0,none⟩=some (.slice (some ⟨sg,0,none⟩) sn sc)):=by unfold Hid;rw[hwB];simp
 have KC:Hid (∀j,j<sn→wB.cell? ⟨sg,j,none⟩=some (.int .i64 (s.getD j 0))):=fun j hj=>cellk HBB.out (hcell j hj)
 have HD0:=Lib.hid (DSt.start (hSB.alloc (.cells #[.int .i64 0,.slice none 0 0] 127)));clear h hv hs hSB hcell;go_enter Tryz.func148,Tryz.ntmps148
 go_wp2_with fail
 rw[←hwB];refine (hbl.out sn _ HD0.out.st (by omega) (by omega)).mono ?_;rintro e w1 ⟨r,hr0,hr1,rfl,hcur,hg⟩;have hd:=HD0.out.draw hcur hg;obtain⟨r,rfl⟩:=Int.eq_ofNat_of_zero_le hr0;have hrs:r<sn:=by omega
 have H1:=Lib.hid (SI.start (cs:=#[.int .i64 r,.slice none 0 0]) (T:=127) (o:=1) (x0:=.int .i64 r) HSB.out hd (OwI.nil wB.heap.size w1 (by have:=hd.size;simp at this;omega)) (fun b hb=>by simp[blk] at hb) rfl (fun _=>rfl));have hw1:wB.heap.size<w1.heap.size:=by have:=hd.size;simp at this;omega
 obtain⟨hk1,hk3⟩:=HAT.out r (by omega);have KS:=Lib.hid (KC.out r hrs);generalize s.getD r 0=k at *;obtain⟨k,rfl⟩:=Int.eq_ofNat_of_zero_le (by omega:0≤k);obtain⟨fb,hfb⟩:∃fb,fb=w1.heap.size:=⟨_,rfl⟩
 obtain⟨rb,hrb⟩:∃rb,rb=wB.heap.size:=⟨_,rfl⟩
 obtain⟨sb,hsb⟩:∃sb,sb=w.heap.size:=⟨_,rfl⟩
 have hRB:rb≠fb:=by omega
 have hsbl:sb<wB.heap.size:=by omega
 have hsbc:sb≠cb:=by omega
 have hsgc:sg≠cb:=by omega
 rw[←hfb,←hrb] at H1;clear hcur hg hd HD0 hr0 hr1;go_wp2_with fail
 rw[←hfb,←hsb];have e1:sb+1=rb:=by omega
 rw[e1];rw[←hsb] at KB;have HBS:=Lib.hid hbs;have HSBE:=Lib.hid hsb;clear hfb hrb e1 hw1 hsb hbs hwB
 go_loopw [6,7] (fun iv _ wr=>∃(i:Nat) (ov:Value) (l:List Int),iv=.int .i64 i∧l.length=i∧i≤k∧Hid (SI wB (.cells #[.int .i64 0,.slice none 0 0] 127 (0,0)) (.int .i64 r) rb fb 1 wr ov l S len cb)) (fun iv _ _=>k-(intOf iv).toNat)
 case atStart=>exact⟨0,_,[],rfl,rfl,by omega,H1⟩
 case round=>
  obtain⟨i,ov,l,rfl,hli,hik,HI⟩:=hrel;have hd:=HI.out.2.2.2.2.2.2.2;have kb:=hd.cell hsbc KB.out;have ks:=hd.cell hsgc KS.out;obtain⟨kr,kr'⟩:=HI.out.2.2.2.1 (by omega);have kf:=HI.out.2.1;clear hd;have hr0:(0:Int)≤r:=by omega
  have hr1:(r:Int)<sn:=by omega
  by_cases hlt:i<k
  ·go_wp2_with fail
   refine (hbl.out 4 _ HI.out.st (by omega) (by omega)).mono ?_;rintro e w3 ⟨y,hy0,hy1,rfl,hcur,hg⟩;have HI3:=Lib.hid (HI.out.draw hcur hg);clear kb ks kr kr' kf hcur hg;have kf:=HI3.out.2.1;obtain⟨W,hWs,hbt⟩:=HI3.out.1.built;have HBT:=Lib.hid hbt;clear hbt;go_wp2_with (at_builtin;refine wpList_app1D rfl (.tmp 27) (.tmp 29) 24 rfl 3 (.int .i64 0) 1 8 Tryz.underlying24 info_intD (by decide) (by decide) (by rfl) ov l.length (l.map (Value.int .i64)) rfl HBT.out [.int .i64 y] rfl (by simp[Value.oneCell']) (by first|rfl|(simp;rfl)) (by omega) ?_)
   intro v' w4 hown' ko hbl2;rcases hown'.form with⟨_,h0⟩|⟨g4,c4,rfl,_,_⟩
   ·omega
   have HI4:=Lib.hid (HI3.out.step (x:=y) hWs (by rw[hli];exact hown') ko hbl2 (by unfold inI;omega));obtain⟨z1,z2,_,_⟩:=HI3.out.after ko;clear hown' ko hbl2 kf HI3 HBT;go_wp2_with fail
   exact⟨⟨i+1,_,l++[y],by simp,by simp;omega,by omega,HI4⟩,by simp[intOf];omega⟩
  ·obtain rfl:i=k:=by omega
   obtain⟨oa,oc,rfl⟩:=HI.out.1.shape;rw[hli] at HI kf;have HLI:=Lib.hid hli;clear hli;have hrow:=HI.out.2.2.2.2.1;have q0:wr.cell? ⟨rb,0,none⟩=some (.int .i64 0):=by rw[cell_of_row wr rb 0 _ _ _ hrow];rfl
   have q1:wr.cell? ⟨rb,1,none⟩=some (.slice none 0 0):=by rw[cell_of_row wr rb 1 _ _ _ hrow];rfl
   have f0:=frozen_of_row wr rb 0 _ _ hrow;have f1:=frozen_of_row wr rb 1 _ _ hrow;clear hrow;go_wp2_with fail
   refine bodyPost_ret (v:=.agg #[.int .i64 r,.slice oa i oc]) (by simp[results,Tryz.results148,go_sem,q0,q1]) rfl ?_;obtain⟨g1,g2⟩:=HI.out.fin (w':=(wr.setCell ⟨rb,0,none⟩ (.int .i64 r)).setCell ⟨rb,1,none⟩ (.slice oa i oc)) ((OnlyAt.setCell _ _ _ _).same (OnlyAt.setCell _ _ _ _));have:=HLI.out;exact⟨r,_,l,rfl,by unfold inI;omega,g1.mono (by have:=HBB.out.size;omega),by omega,by omega,((DSt.start HS.out).below HBB.out).trans g2⟩
theorem OwI.atom {base:Nat} {w:World} {r:Int} {xv:Value} {l:List Int} (h:OwI base w xv l) (hr:inI r):RdAtom w (.agg #[.int .i64 r,xv]) (r,l):=by
 obtain⟨a,c,rfl⟩:=h.shape;exact⟨a,_,c,rfl,hr,h.ints⟩
theorem DFs.rd {base:Nat} {w:World} {v:Value} {l:List AtomD} (h:DFs base w v l):RdAtomS w v l:=by
 obtain⟨bs,h1,_⟩:=h.done;exact h1.rd
def DrewL (hi m:Nat) (w:World) (S:Value) (len cb:Nat) (e:Ending) (w':World):Prop:=
 ∃(v:Value) (l:List AtomD),e=.returned v∧DFs w.heap.size w' v l∧l.length≤hi∧(∀x∈l,x.2.length≤m)∧DSt w w' S len cb
set_option maxRecDepth 100000 in
set_option maxHeartbeats 8000000 in
theorem l5Db_any (w:World) (S:Value) (len cb:Nat) (base:Nat) (sv:Value) (s:List Int) (h:St w S len cb) (hv:OwI base w sv s) (hcb:cb<base) (hs:isSchemaB s=true) :
  Calls Tryz.prog 101 #[.pointer (some ⟨cb,0,none⟩),.agg #[sv]] w (DrewL 8 3 w S len cb):=by
 have hbl:=Lib.hid (fun n w h h0 h1=>l1Below_any n w S len cb h h0 h1);have hfa:=Lib.hid (fun w h hv=>l5Fact_any w S len cb base sv s h hv hcb hs);have hpu:=Lib.hid (fun w v vf l f h hf hz hz2 hzf=>sPut5_inv w v vf l f h hf hz hz2 hzf);have HS:=Lib.hid h;have hcbw:=h.cb_lt;obtain⟨sa,sc,rfl⟩:=hv.shape;obtain⟨sn,hsn⟩:∃n,s.length=n:=⟨_,rfl⟩
 rw[hsn] at hv hfa ⊢;obtain⟨wB,hwB⟩:∃wB,wB=w.alloc (.cells #[.slice sa sn sc] 26):=⟨_,rfl⟩
 have HBB:Hid (Below w.heap.size w wB):=by rw[hwB];exact below_alloc w _
 have hSB:St wB S len cb:=by rw[hwB];exact h.alloc _
 have HSB:=Lib.hid hSB;have hbs:wB.heap.size=w.heap.size+1:=by rw[hwB];simp
 have KB:Hid (wB.cell? ⟨w.heap.size,0,none⟩=some (.slice sa sn sc)):=by unfold Hid;rw[hwB];simp
 have HV:Hid (OwI base wB (.slice sa sn sc) s):=hv.below HBB.out;have HD0:=Lib.hid ((DSt.start hSB).below (below_alloc wB (.cells #[] 127)));have HL0:=Lib.hid (DFs.lit wB.heap.size wB (Nat.le_refl _));clear h hv hs hSB hsn;go_enter Tryz.func101,Tryz.ntmps101
 go_wp2_with fail
 rw[←hwB];refine (hbl.out 9 _ HD0.out.st (by omega) (by omega)).mono ?_;rintro e w1 ⟨x,hx0,hx1,rfl,hcur,hg⟩;have HD1:=Lib.hid (HD0.out.draw hcur hg);have HL1:Hid (DFs wB.heap.size w1 (.slice (some ⟨wB.heap.size,0,none⟩) 0 0) []):=HL0.out.only (Nat.le_refl _) (grownBy_only hg) (fun b hb=>by simp at hb;omega);obtain⟨x,rfl⟩:=Int.eq_ofNat_of_zero_le hx0;obtain⟨sb,hsb⟩:∃sb,sb=w.heap.size:=⟨_,rfl⟩
 have hsbl:sb<wB.heap.size:=by omega
 have hsbc:sb≠cb:=by omega
 have hcbB:cb<wB.heap.size:=by omega
 clear hcur hg HD0 HL0 hx0;go_wp2_with fail
 rw[←hbs,←hsb];rw[←hsb] at KB;have HSBE:=Lib.hid hsb;have HBS:=Lib.hid hbs;clear hsb hbs hwB
 go_loopw [5,6] (fun ov nv wr=>∃(k:Nat) (l:List AtomD),nv=.int .i64 k∧k+l.length≤8∧Hid (∀x∈l,x.2.length≤3)∧Hid (DFs wB.heap.size wr ov l)∧Hid (DSt wB wr S len cb)) (fun _ nv _=>(intOf nv).toNat)
 case atStart=>exact⟨x,[],rfl,by simp;omega,fun x hx=>by simp at hx,HL1,HD1⟩
 case round=>
  obtain⟨k,l,rfl,hkl,HZ,HL,HD⟩:=hrel;have kb:=HD.out.cell hsbc KB.out;by_cases hk0:0<k
  ·go_wp2_with fail
   refine (hfa.out wr HD.out.st (HV.out.draw hcb HD.out)).mono ?_;rintro e w3 ⟨r,xv,fl,rfl,hri,how,hl1,hl3,hd⟩;have HD3:=Lib.hid (HD.out.trans hd);have HL3:=Lib.hid (HL.out.draw hcbB hd);have HF:=Lib.hid (how.atom hri);clear kb how hd;go_wp2_with fail
   refine (hpu.out w3 _ _ l (r,fl) HL3.out.rd HF.out (fun y hy=>by have:=HZ.out y hy;omega) (by omega) (by show fl.length≤1048576;omega)).mono ?_;rintro e w4 ⟨v',W,bss,rfl,hs,ho,hb⟩;have HL4:Hid (DFs wB.heap.size w4 v' (putF l (r,fl))):=DFs.mono ⟨W,bss,rfl,ho⟩ (by have:=HD3.out.size;omega);have HD4:=Lib.hid (HD3.out.below hb);have HZ4:Hid (∀y∈putF l (r,fl),y.2.length≤3):=fun y hy=>(putF_mem l (r,fl) y hy).elim (HZ.out y) (fun e=>by rw[e];exact hl3)
   have hlen:=putF_len l (r,fl);clear hs ho hb;go_wp2_with fail
   exact⟨⟨k-1,_,by rw[show ((k:Int)-1)=((k-1:Nat):Int) from by omega],by omega,HZ4,HL4,HD4⟩,by simp[intOf];omega⟩
  ·obtain rfl:k=0:=by omega
   clear kb;go_wp2_with fail
   go_ret;exact⟨_,l,rfl,HL.out.mono (by have:=HBB.out.size;omega),by omega,HZ.out,((DSt.start HS.out).below HBB.out).trans HD.out⟩
theorem SI.putR {w0 w:World} {RB:Obj} {x0:Value} {rb fb:Nat} {xv:Value} {l:List Int} {S:Value} {len cb:Nat} (h:SI w0 RB x0 rb fb 1 w xv l S len cb) (u:Value):SI w0 RB u rb fb 1 (w.setCell ⟨fb,0,none⟩ u) xv l S len cb:=by
 obtain⟨h1,h2,h3,h4,h5,h6,h7,h8⟩:=h;have k:=OnlyAt.setCell w fb 0 u;obtain⟨c0,f0⟩:=h4 (by omega);refine⟨h1.only k (fun b hm=>by simpa using (h6 b hm).1),?_,by rw[World.frozen?_setCell];exact h3,fun _=>⟨World.cell?_setCell_same _ _ _ c0,by rw[World.frozen?_setCell];exact f0⟩,by rw[k.block rb (heap_lt h5) (by simpa using h7.2.2.2)];exact h5,h6,⟨h7.1,Nat.lt_of_lt_of_le h7.2.1 k.size,h7.2.2⟩,h8.only k (fun b hm=>by simp at hm;omega)⟩;rw[World.cell?_setCell_other _ _ _ _ (by intro e;cases e)];exact h2
theorem SI.set {w0 w:World} {RB:Obj} {x0:Value} {rb fb o g n c:Nat} {l:List Int} {S:Value} {len cb:Nat} (h:SI w0 RB x0 rb fb o w (.slice (some ⟨g,0,none⟩) n c) l S len cb) (j:Nat) (y:Int) (hn:l.length=n) (hy:inI y) :
  SI w0 RB x0 rb fb o (w.setCell ⟨g,j,none⟩ (.int .i64 y)) (.slice (some ⟨g,0,none⟩) n c) (l.set j y) S len cb:=by
 obtain⟨h1,h2,h3,h4,h5,h6,h7,h8⟩:=h;have k:=OnlyAt.setCell w g j (.int .i64 y);obtain⟨hgf,hgr⟩:=h6 g (by simp[blk]);have hglo:=h1.lo g (by simp[blk]);have hfb:fb∉[g]:=by simpa using Ne.symm hgf
 have hrb:rb∉[g]:=by simpa using Ne.symm hgr
 obtain⟨W,hW,hb⟩:=h1.built;subst hn;have hb2:BuiltC 3 1 W w (.slice (some ⟨g,0,none⟩) l.length c) l.length (l.map (Value.int .i64)):=hb;have hb3:=hb2.store j (.int .i64 y);rw[←List.map_set] at hb3;have hb4:Built .i64 3 W (w.setCell ⟨g,j,none⟩ (.int .i64 y)) (.slice (some ⟨g,0,none⟩) l.length c) (l.set j y):=by unfold Built;rw[List.length_set];exact hb3
 exact⟨OwI.of hb4 (by omega) (fun x hx=>(List.mem_or_eq_of_mem_set hx).elim (h1.2.2 x) (fun e=>by rw[e];exact hy)),k.cell hfb h2,k.frozen h7.2.1 hfb h3,fun ho=>⟨k.cell hfb (h4 ho).1,k.frozen h7.2.1 hfb (h4 ho).2⟩,by rw[k.block rb (heap_lt h5) hrb];exact h5,h6,⟨h7.1,Nat.lt_of_lt_of_le h7.2.1 k.size,h7.2.2⟩,h8.only k (fun b hm=>by simp at hm;omega)⟩
set_option maxRecDepth 100000 in
set_option maxHeartbeats 8000000 in
theorem l5AnyFact_any (w:World) (S:Value) (len cb:Nat) (base:Nat) (sv:Value) (s:List Int) (h:St w S len cb) (hv:OwI base w sv s) (hcb:cb<base) :
  Calls Tryz.prog 104 #[.pointer (some ⟨cb,0,none⟩),.agg #[sv]] w (DrewF 1 4 w S len cb):=by
 have hbl:=Lib.hid (fun n w h h0 h1=>l1Below_any n w S len cb h h0 h1);have hfa:=Lib.hid (fun w sv s h hv hs=>l5Fact_any w S len cb base sv s h hv hcb hs);have hsf:=Lib.hid (fun w h=>l4Safe_any w base sv s h);have hpi:=Lib.hid (fun g n xs w h hn0 hn1 hg hx hc hr=>l1PickInt_any g n xs w S len cb h hn0 hn1 hg hx hc hr);have HS:=Lib.hid h;have hcbw:=h.cb_lt;obtain⟨sa,sc,rfl⟩:=hv.shape;obtain⟨sn,hsn⟩:∃n,s.length=n:=⟨_,rfl⟩
 rw[hsn] at hv hsf ⊢;obtain⟨wB,hwB⟩:∃wB,wB=w.alloc (.cells #[.slice sa sn sc] 26):=⟨_,rfl⟩
 have HBB:Hid (Below w.heap.size w wB):=by rw[hwB];exact below_alloc w _
 have hSB:St wB S len cb:=by rw[hwB];exact h.alloc _
 have HSB:=Lib.hid hSB;have hbs:wB.heap.size=w.heap.size+1:=by rw[hwB];simp
 have hba:=below_alloc wB (.cells #[.int .i64 0,.slice none 0 0] 127);have HBA:=Lib.hid hba;have KB:Hid ((wB.alloc (.cells #[.int .i64 0,.slice none 0 0] 127)).cell? ⟨w.heap.size,0,none⟩=some (.slice sa sn sc)):=cellk hba (by rw[hwB];simp);have HV:Hid (OwI base (wB.alloc (.cells #[.int .i64 0,.slice none 0 0] 127)) (.slice sa sn sc) s):=(hv.below HBB.out).below hba;have HD0:=Lib.hid (DSt.start (hSB.alloc (.cells #[.int .i64 0,.slice none 0 0] 127)));clear h hv hSB hsn hba;go_enter Tryz.func104,Tryz.ntmps104
 go_wp2_with fail
 rw[←hwB];refine (hsf.out _ HV.out).mono ?_;rintro e w1 ⟨xv,s1,rfl,how,hs1,hb⟩;have HD1:=Lib.hid (HD0.out.below hb);clear hb;go_wp2_with fail
 refine (hfa.out _ _ s1 HD1.out.st how hs1).mono ?_;rintro e w2 ⟨r,yv,l,rfl,hri,hoy,hl1,hl3,hd⟩;have H1:=Lib.hid (SI.start (cs:=#[.int .i64 r,yv]) (T:=127) (o:=1) (x0:=.int .i64 r) HSB.out (HD1.out.trans hd) (hoy.mono (by have:=HD1.out.size;simp at this;omega)) (fun b hb=>by have:=(hoy.lo b hb).1;have:=HD1.out.size;simp at this;omega) rfl (fun _=>rfl));obtain⟨oa,oc,rfl⟩:=hoy.shape;obtain⟨n,hn⟩:∃n,l.length=n:=⟨_,rfl⟩
 have HN:=Lib.hid hn;rw[hn] at H1 hl1 hl3 ⊢;obtain⟨rb,hrb⟩:∃rb,rb=wB.heap.size:=⟨_,rfl⟩
 obtain⟨fb,hfb⟩:∃fb,fb=w2.heap.size:=⟨_,rfl⟩
 have hRB:rb≠fb:=by have:=(HD1.out.trans hd).size;simp at this;omega
 have HRI:=Lib.hid hri;rw[←hrb,←hfb] at H1;have HBS:=Lib.hid hbs;clear how hoy hd hn hri HD1 HD0 hbs hwB;go_wp2_with fail
 rw[←hfb,show w.heap.size+1=rb by rw[hrb,HBS.out]];clear hrb hfb;refine (hbl.out 10 _ H1.out.st (by omega) (by omega)).mono ?_;rintro e w3 ⟨x,hx0,hx1,rfl,hcur,hg⟩;have HX:=Lib.hid (H1.out.draw hcur hg);have hcb2:cb<w3.heap.size:=HX.out.st.cb_lt;clear hcur hg H1;have kf:=HX.out.2.1;have kf1:=HX.out.2.2.1;obtain⟨kr,kr'⟩:=HX.out.2.2.2.1 (by omega);have hrow:=HX.out.2.2.2.2.1;have q0:w3.cell? ⟨rb,0,none⟩=some (.int .i64 0):=by rw[cell_of_row w3 rb 0 _ _ _ hrow];rfl
 have q1:w3.cell? ⟨rb,1,none⟩=some (.slice none 0 0):=by rw[cell_of_row w3 rb 1 _ _ _ hrow];rfl
 have f0:=frozen_of_row w3 rb 0 _ _ hrow;have f1:=frozen_of_row w3 rb 1 _ _ hrow;clear hrow;have hcase:x=0∨x=1∨x=2∨2<x:=by omega
 rcases hcase with rfl|rfl|rfl|hx3
 ·go_wp2_with fail
  have qa:=cellk (below_alloc w3 (.cells #[.int .i64 0,.int .i64 99,.int .i64 100,.int .i64 (-1)] 3)) kf
  go_region_law (first
   |(refine step_app1D (by rfl) (.tmp 15) (.tmp 19) 24 (by rfl) 3 (.int .i64 0) 1 8 Tryz.underlying24 info_intD (by decide) (by decide) (by rfl) (.slice oa n oc) n (l.map (Value.int .i64)) (by rfl) (BuiltC.grow HBT.out ((Below.refl _ _).alloc (Nat.le_refl _) _)) w4.heap.size [.int .i64 y] (by rfl) (by simp[Value.oneCell']) (by rfl) (heap_alloc_new w4 _) (by omega) ?_;intro g' cap' w5 hown' ko hbl;have HI5:=Lib.hid ((HI4.out.below (below_alloc w4 _)).step hWs (by rw[HN.out];exact hown') ko (fun b hb=>(hbl b hb).imp id (fun e=>by rw[e];exact Nat.le_refl _)) ⟨hy0,hy1⟩);obtain⟨z1,z2,z3,z6⟩:=(HI4.out.below (below_alloc w4 _)).after ko;obtain⟨z6,z7⟩:=z6 (by omega);have z4:w5.cell? ⟨rb,0,none⟩=some (.int .i64 0):=by { rw[cell_of_row _ rb 0 _ _ _ z3];rfl };have z8:w5.cell? ⟨rb,1,none⟩=some (.slice none 0 0):=by { rw[cell_of_row _ rb 1 _ _ _ z3];rfl };have z5:=frozen_of_row _ rb 0 _ _ z3;have z9:=frozen_of_row _ rb 1 _ _ z3)
   |(go_simp;go_at_call 127;refine (hpi.out _ 4 [0,99,100,-1] _ (HX.out.below ((Below.refl _ _).drew.alloc (Nat.le_refl _) _)).st (by omega) (by omega) (by simp;omega) rfl (heap_alloc_new _ _) (by intro x hx;simp at hx;omega)).mono ?_;rintro e2 w4 ⟨y,hy0,hy1,rfl,hcur,hg⟩;have HI4:=Lib.hid ((HX.out.below ((Below.refl _ _).drew.alloc (Nat.le_refl _) _)).draw hcur hg);obtain⟨W,hWs,hbt⟩:=HI4.out.1.built;rw[Built,HN.out] at hbt;have HBT:=Lib.hid hbt;have qb:=HI4.out.2.1;have qc:=cellk ((Below.refl w4.heap.size w4).alloc (Nat.le_refl _) (.cells #[.int .i64 y] 3)) qb;clear hcur hg hbt))
  all_goals (go_wp2_with fail)
  all_goals
   refine bodyPost_ret (v:=.agg #[.int .i64 r,.slice (some ⟨g',0,none⟩) (n+1) cap']) (by simp[results,Tryz.results104,go_sem,z4,z8]) rfl ?_;obtain⟨g1,g2⟩:=HI5.out.fin (w':=(World.setCell _ ⟨rb,0,none⟩ (.int .i64 r)).setCell ⟨rb,1,none⟩ (.slice (some ⟨g',0,none⟩) (n+1) cap')) ((OnlyAt.setCell _ _ _ _).same (OnlyAt.setCell _ _ _ _));have hlen:=HN.out;have hsz:=HBB.out.size;exact⟨r,_,_,rfl,HRI.out,g1.mono hsz,by simp,by simp;omega,((DSt.start HS.out).below HBB.out).trans g2⟩
 ·go_wp2_with fail
  refine (hpi.out _ 3 [-1,3,4] _ (HX.out.below (below_alloc _ _)).st (by omega) (by omega) (by simp;omega) rfl (heap_alloc_new _ _) (by intro x hx;simp at hx;omega)).mono ?_;rintro e2 w4 ⟨y,hy0,hy1,rfl,hcur,hg⟩;have HI4:=Lib.hid ((HX.out.below (below_alloc _ _)).draw hcur hg);have HI5:=Lib.hid (HI4.out.putR (.int .i64 y));clear hcur hg kf kf1 kr kr' q0 q1 f0 f1;have kf:=HI4.out.2.1;obtain⟨kr,kr'⟩:=HI4.out.2.2.2.1 (by omega);have hrow:=HI4.out.2.2.2.2.1;have q0:w4.cell? ⟨rb,0,none⟩=some (.int .i64 0):=by rw[cell_of_row w4 rb 0 _ _ _ hrow];rfl
  have q1:w4.cell? ⟨rb,1,none⟩=some (.slice none 0 0):=by rw[cell_of_row w4 rb 1 _ _ _ hrow];rfl
  have f0:=frozen_of_row w4 rb 0 _ _ hrow;have f1:=frozen_of_row w4 rb 1 _ _ hrow;clear hrow;go_wp2_with fail
  refine bodyPost_ret (v:=.agg #[.int .i64 y,.slice oa n oc]) (by simp[results,Tryz.results104,go_sem,q0,q1]) rfl ?_;obtain⟨g1,g2⟩:=HI5.out.fin (w':=(World.setCell _ ⟨rb,0,none⟩ (.int .i64 y)).setCell ⟨rb,1,none⟩ (.slice oa n oc)) ((OnlyAt.setCell _ _ _ _).same (OnlyAt.setCell _ _ _ _));have hlen:=HN.out;have hsz:=HBB.out.size;exact⟨y,_,_,rfl,⟨hy0,hy1⟩,g1.mono hsz,by omega,by omega,((DSt.start HS.out).below HBB.out).trans g2⟩
 ·obtain⟨g,rfl,hg0,hnc,hcm,hcell⟩:=HX.out.1.at HN.out (by omega);have hn0:(0:Int)<n:=by omega
  have hn1:0<n:=by omega
  have hn2:n≠0:=by omega
  obtain⟨hgf,hgr⟩:=HX.out.2.2.2.2.2.1 g (by simp[blk]);go_wp2_with fail
  have qa:=cellk (below_alloc w3 (.cells #[.int .i64 99,.int .i64 100,.int .i64 (-1)] 3)) kf
  have HFZ:Hid (∀w' l',SI wB (.cells #[.int .i64 0,.slice none 0 0] 127 (0,0)) (.int .i64 r) rb fb 1 w' (.slice (some ⟨g,0,none⟩) n oc) l' S len cb→w'.frozen? ⟨g,0,none⟩=false):=fun w' l' h=>by
   rcases h.1.1.2 with⟨e,_⟩|⟨g',cap,cur,e,_,hg,_⟩
   ·cases e
   ·cases e;exact frozen_of_row w' _ 0 _ _ hg
  go_region_law (first
   |(go_simp;go_at_call 127;refine (hpi.out _ 3 [99,100,-1] _ (HX.out.below ((Below.refl _ _).drew.alloc (Nat.le_refl _) _)).st (by omega) (by omega) (by simp;omega) rfl (heap_alloc_new _ _) (by intro x hx;simp at hx;omega)).mono ?_;rintro e2 w4 ⟨y,hy0,hy1,rfl,hcur,hg⟩;have HI4:=Lib.hid ((HX.out.below ((Below.refl _ _).drew.alloc (Nat.le_refl _) _)).draw hcur hg);obtain⟨_,hG,_,_,_,hc4⟩:=HI4.out.1.at HN.out (by omega);cases hG;have qg:=hc4 0 (by omega);have qz:=HFZ.out _ _ HI4.out;have qb:=HI4.out.2.1;obtain⟨qr,qr'⟩:=HI4.out.2.2.2.1 (by omega);have z3:=HI4.out.2.2.2.2.1;have z4:w4.cell? ⟨rb,0,none⟩=some (.int .i64 0):=by { rw[cell_of_row _ rb 0 _ _ _ z3];rfl };have z8:w4.cell? ⟨rb,1,none⟩=some (.slice none 0 0):=by { rw[cell_of_row _ rb 1 _ _ _ z3];rfl };have z5:=frozen_of_row _ rb 0 _ _ z3;have z9:=frozen_of_row _ rb 1 _ _ z3;have HI5:=Lib.hid (HI4.out.set 0 y HN.out ⟨hy0,hy1⟩);clear hcur hg hc4 z3))
  all_goals (go_wp2_with fail)
  all_goals
   refine bodyPost_ret (v:=.agg #[.int .i64 r,.slice (some ⟨g,0,none⟩) n oc]) (by simp[results,Tryz.results104,go_sem,z4,z8]) rfl ?_;obtain⟨g1,g2⟩:=HI5.out.fin (w':=(World.setCell _ ⟨rb,0,none⟩ (.int .i64 r)).setCell ⟨rb,1,none⟩ (.slice (some ⟨g,0,none⟩) n oc)) ((OnlyAt.setCell _ _ _ _).same (OnlyAt.setCell _ _ _ _));have hlen:=HN.out;have hsz:=HBB.out.size;exact⟨r,_,_,rfl,HRI.out,g1.mono hsz,by simp;omega,by simp;omega,((DSt.start HS.out).below HBB.out).trans g2⟩
 ·have p0:decide (x=0)=false:=decide_eq_false (by omega);have p1:decide (x=1)=false:=decide_eq_false (by omega);have p2:decide (x=2)=false:=decide_eq_false (by omega);have p0':(x==0)=false:=by simp;omega
  have p1':(x==1)=false:=by simp;omega
  have p2':(x==2)=false:=by simp;omega
  go_wp2_with fail
  refine bodyPost_ret (v:=.agg #[.int .i64 r,.slice oa n oc]) (by simp[results,Tryz.results104,go_sem,q0,q1]) rfl ?_;obtain⟨g1,g2⟩:=HX.out.fin (w':=(World.setCell _ ⟨rb,0,none⟩ (.int .i64 r)).setCell ⟨rb,1,none⟩ (.slice oa n oc)) ((OnlyAt.setCell _ _ _ _).same (OnlyAt.setCell _ _ _ _));have hlen:=HN.out;have hsz:=HBB.out.size;exact⟨r,_,_,rfl,HRI.out,g1.mono hsz,by omega,by omega,((DSt.start HS.out).below HBB.out).trans g2⟩
theorem DFs.ready {B:Nat} {w4 w5:World} {v:Value} {l:List AtomD} {S:Value} {len cb:Nat} (h:DFs B w4 v l) (hlt:cb<B) (hd:DSt w4 w5 S len cb) :
  ∃W bss cs,W.heap.size=B∧OutInv 127 W w5 v l bss∧BuiltC 127 2 W w5 v l.length cs∧Els w5 cs l bss∧(∀b∈blk v,B≤b∧b<w4.heap.size)∧(∀b∈bss.flatten,b<w4.heap.size)∧B≤w4.heap.size:=by
 obtain⟨W,bss,hW,ho⟩:=h;have hs:=hd.size;have h1:=ho.below.size;obtain⟨W',hW',hb'⟩:=virt w5 B (by omega);have ho5:=ho.rebase (W':=W') (by omega) hb' hd.2.1 (fun b hb hm=>by simp at hm;have:=(ho.blk_lo b hb).1;omega) (fun b hb hm=>by simp at hm;have:=(ho.2.2 b hb).1;omega);obtain⟨cs,c1,c2⟩:=ho5.parts;exact⟨W',bss,cs,hW',ho5,c1,c2,fun b hb=>by have:=ho.blk_lo b hb;omega,fun b hb=>(ho.2.2 b hb).2,by omega⟩
def DrawnB (w:World) (S:Value) (len cb:Nat) (e:Ending) (w':World):Prop:=∃b:Bool,e=.returned (.bool b)∧Cur w' S len cb∧w.grownBy w' (some cb)
theorem l1Once_any (n:Int) (w:World) (S:Value) (len cb:Nat) (h:St w S len cb) (h0:1≤n) (h1:n≤4611686018427387904) :
  Calls Tryz.prog 76 #[.pointer (some ⟨cb,0,none⟩),.int .i64 n] w (DrawnB w S len cb):=by
 have hb:=Lib.hid (l1Below_any n w S len cb h h0 h1);clear h;go_enter Tryz.func76,Tryz.ntmps76
 go_wp2_with fail
 refine hb.out.mono ?_;rintro e w1 ⟨x,hx0,hx1,rfl,hcur,hg⟩;have HC:=Lib.hid hcur;have HG:=Lib.hid hg;clear hcur hg;go_wp2_with fail
 go_ret;exact⟨_,rfl,HC.out,HG.out⟩
end Go.Proofs.YtpedpbbiamhgdaaGreatDoor
