import Derived.Test.YtpedpbbiamhgdaaGreatDoorSq4all
import Derived.Deep.RegionLaw
import Derived.Deep.RegionHeld3
namespace Go.Proofs.YtpedpbbiamhgdaaGreatDoor
open Go Go.Sort Go.RowKit
set_option linter.unusedVariables false
set_option linter.unusedSimpArgs false
set_option maxRecDepth 100000 in
set_option maxHeartbeats 8000000 in
theorem sRenameQuery_any (w:World) (v vt:Value) (d:QueryD) (tl:List Int) (h:RdQuery w v d) (ht:Ints w vt tl) (hs1:d.1.length≤1048576) (hs2:sizeAtomS d.2≤1048576) :
  Calls Tryz.prog 141 #[v,vt] w (fun e w'=>∃r,e=.returned r∧RdQuery w' r (renQ d tl)∧Below w.heap.size w w'):=by
 obtain⟨a0,n0,c0,a,n,c,rfl,hi,ha⟩:=h;obtain⟨hl,hn,hm,hcell⟩:=ha.at
 have hnl:n≤1048576:=by unfold sizeAtomS at hs2;omega
 unfold maxLen at hm;obtain⟨a',cap',rfl⟩:=ht.form;have HC:=Lib.hid hcell;have HL:=Lib.hid hl;have HT:=Lib.hid ht;have HI:=Lib.hid hi;have HSA:=Lib.hid hs2;have hT:=Lib.hid (fun w v l h h' hz=>sTerms4_any w v (.slice a' tl.length cap') l tl h h' hz);have hb0:∀a b,Below w.heap.size w ((w.alloc a).alloc b):=fun a b=>((Below.refl _ _).alloc (Nat.le_refl _) _).alloc (by simp) _
 have HB0:=Lib.hid hb0;have hh:=Lib.hid (fun w h h'=>hT.out w (.slice a0 n0 c0) d.1 h h' hs1);generalize htn:tl.length=tn at *;clear htn;clear ha hcell hl ht hi hs2 hb0 hs1;go_enter Tryz.func141,Tryz.ntmps141
 go_wp2_with fail
 refine (hh.out _ (HI.out.below (HB0.out _ _)) (HT.out.below (HB0.out _ _))).mono ?_;rintro e W1 ⟨vh,bh,rfl,hoh,hfh,hb⟩;have HBW:=Lib.hid (bnext (HB0.out _ _) hb);have kq1:=cellk hb (b:=w.heap.size) (o:=1) (v:=.slice a n c) (by simp);have kr0:=cellk hb (b:=w.heap.size+1) (o:=0) (v:=.slice none 0 0) (by simp);have kr1:=cellk hb (b:=w.heap.size+1) (o:=1) (v:=.slice none 0 0) (by simp);have kf0:W1.frozen? ⟨w.heap.size+1,0,none⟩=false:=frok hb (v:=.slice none 0 0) (by simp) (by simp);have kf1:W1.frozen? ⟨w.heap.size+1,1,none⟩=false:=frok hb (v:=.slice none 0 0) (by simp) (by simp);have HOH:=Lib.hid hoh;have hsz:w.heap.size+1<W1.heap.size:=by have:=hb.size;simp at this;omega
 have HFH:Hid (∀b∈bh,b≠w.heap.size+1):=fun b hb'=>by have:=hfh.lo b hb';simp at this;omega
 clear hb hfh hoh;obtain⟨va,vm,vc,rfl⟩:=HOH.out.1.shape;go_wp2_with fail
 have HW:=Lib.hid (rfl:W1=W1);obtain⟨W,hW⟩:∃W,W=W1.alloc (.cells #[.slice va vm vc,.slice none 0 0] 29):=⟨_,rfl⟩
 have hbW:Below W1.heap.size W1 W:=by rw[hW];exact (Below.refl _ _).alloc (Nat.le_refl _) _
 have hWs:W.heap.size=W1.heap.size+1:=by rw[hW];simp
 have HQ0:Hid (QInv 83 W1 W (.slice va vm vc) [] (.slice none 0 0) []):=by
  refine⟨BuiltA.nil _ _ _ hbW,by rw[hW];simp,by rw[hW];simp,by rw[hW];simp,fun b hb=>by simp[blk] at hb,fun b hb=>by simp at hb,by omega⟩
 have KQ1:=Lib.hid kq1;have KR0:=Lib.hid kr0;have KR1:=Lib.hid kr1;have KF0:=Lib.hid kf0;have KF1:=Lib.hid kf1;rw[←hW];clear hW hbW hWs kq1 kr0 kr1 kf0 kf1 HW
 go_loopw [6] (fun iv wr=>∃i:Nat,i≤n∧iv=.int .i64 i∧∃xv bss,QInv 83 W1 wr (.slice va vm vc) ((d.2.take i).map (renA tl)) xv bss) (fun iv _=>n-(intOf iv).toNat)
 case atStart=>exact⟨0,by omega,rfl,_,_,by simpa using HQ0.out⟩
 case round=>
  obtain⟨i,hi,rfl,xv,bss,hq⟩:=hrel;have HQI:=Lib.hid hq;obtain⟨hba,kx1,kx0,kxf,hx6,_,hxs⟩:=hq;have HXB:Hid (W1.heap.size∉blk xv):=fun hx=>(hx6 _ hx).1 rfl
  have HXS:=Lib.hid hxs;clear hx6;have hbq:=hba.below;have kq1:=cellk hbq KQ1.out;by_cases hlt:i<n
  ·obtain⟨b,off,rfl,hbw,hc⟩:=HC.out (by omega);obtain⟨e,hd⟩:∃e,d.2[i]?=some e:=⟨d.2[i]'(by rw[HL.out];exact hlt),List.getElem?_eq_getElem (by rw[HL.out];exact hlt)⟩
   obtain⟨ea,em,ec,c0,c1,hdi,hints⟩:=atomAt (n:=n) hc i e hd;have hww:=bnext HBW.out hbq;have k0:=cellk hww c0;have k1:=cellk hww c1;have HRT:=Lib.hid (ren_take tl hd);have hi0:(0:Int)≤i:=by omega
   have hi1:(i:Int)<n:=by omega
   have hlen2:((d.2.take i).map (renA tl)).length≤i:=by simp;omega
   have hez:e.2.length≤1048576:=by
    have h5:=sumArgs_take hd;have h6:=sumArgs_le d.2 (i+1);have h7:=HSA.out;unfold sizeAtomS at h7;omega
   have HINT:=Lib.hid (hints.below hww);have HTT:=Lib.hid (HT.out.below hww);have HDI:=Lib.hid hdi;have hcall:=Lib.hid (fun wc hb=>hT.out wc (.slice ea em ec) e.2 (HINT.out.below (w':=wc) hb) (HTT.out.below (w':=wc) hb) hez);obtain⟨cs,hc1,hc2⟩:=hba;have HC1:=Lib.hid hc1;have HC2:=Lib.hid hc2;have HBR:=Lib.hid hbq
   have hbx:∀x∈blk xv,W1.heap.size≤x:=by
    rcases hc1.form with⟨e1,_⟩|⟨g,cap,e1,_,_⟩
    ·rw[e1];intro x hx;simp[blk] at hx
    ·rw[e1] at hc1 ⊢;intro x hx;simp[blk] at hx;subst hx;exact hc1.lt.1
   have hnb:w.heap.size<W1.heap.size:=by omega
   have hnb2:b<W1.heap.size:=by omega
   have HN0:Hid (w.heap.size∉blk xv):=fun hx=>by have:=hbx _ hx;omega
   have HN1:Hid (b∉blk xv):=fun hx=>by have:=hbx _ hx;omega
   clear hbx;generalize hL:(d.2.take i).map (renA tl)=L at *;generalize e.1=r at *;clear hc hbw hd c0 c1 hdi hints hww hez hc1 hc2 hbq;go_wp2_with fail
   refine wp_region_noPanic ?_;refine wp_region_held_drew (S:=(fun w'=>w'.cell? ⟨w.heap.size,1,none⟩=some (.slice (some ⟨b,off,none⟩) n c)∧w'.cell? ⟨b,off+i*2,none⟩=some (.int .i64 r)∧w'.cell? ⟨b,off+i*2+1,none⟩=some (.slice ea em ec))) (by kernel_rfl) ?_ (fun hHeld=>?_)
   ·(try dsimp only)
    (first|exact⟨by simpa using kq1,by simpa using k0,by simpa using k1⟩|exact⟨q2,q3,q5⟩|exact⟨cellk (below_alloc _ _) q2,cellk (below_alloc _ _) q3,cellk (below_alloc _ _) q5⟩|exact⟨x0,x1,x3⟩|exact⟨(World.cell?_setCell_other _ _ _ _ (by intro e;have:=congrArg Addr.block e;simp at this;omega)).trans x0,(World.cell?_setCell_other _ _ _ _ (by intro e;have:=congrArg Addr.block e;simp at this;omega)).trans x1,(World.cell?_setCell_other _ _ _ _ (by intro e;have:=congrArg Addr.block e;simp at this;omega)).trans x3⟩)
   refine wpAnyH_take (i:=0) (oi:=_) (v:=?_) rfl (by kernel_rfl) (by kernel_rfl) (by kernel_rfl) (fun _ _ _ h=>h) (Or.inl ⟨by rfl,?_⟩) (by assumption) ?_;rotate_left
   ·(intro w hSw;(try dsimp only at hSw);go_simp<;>with_reducible rfl)
   (try simp only[Act.put,List.setIfInBounds_toArray,List.set_cons_zero,List.set_cons_succ])
   refine wpAnyH_take (i:=2) (oi:=_) (v:=?_) rfl (by kernel_rfl) (by kernel_rfl) (by kernel_rfl) (fun _ _ _ h=>h) (Or.inl ⟨by rfl,?_⟩) (by assumption) ?_;rotate_left
   ·(intro w hSw;(try dsimp only at hSw);go_simp<;>with_reducible rfl)
   (try simp only[Act.put,List.setIfInBounds_toArray,List.set_cons_zero,List.set_cons_succ])
   refine wpAnyH_take (i:=3) (oi:=_) (v:=?_) rfl (by kernel_rfl) (by kernel_rfl) (by kernel_rfl) (fun _ _ _ h=>h) (Or.inl ⟨by rfl,?_⟩) (by assumption) ?_;rotate_left
   ·(intro w hSw;(try dsimp only at hSw);go_simp<;>with_reducible rfl)
   (try simp only[Act.put,List.setIfInBounds_toArray,List.set_cons_zero,List.set_cons_succ])
   refine wpAnyH_take (i:=4) (oi:=_) (v:=?_) rfl (by kernel_rfl) (by kernel_rfl) (by kernel_rfl) (fun _ _ _ h=>h) (Or.inl ⟨by rfl,?_⟩) (by assumption) ?_;rotate_left
   ·(intro w hSw;(try dsimp only at hSw);go_simp<;>with_reducible rfl)
   (try simp only[Act.put,List.setIfInBounds_toArray,List.set_cons_zero,List.set_cons_succ])
   refine wpAnyH_take (i:=5) (oi:=_) (v:=?_) rfl (by kernel_rfl) (by kernel_rfl) (by kernel_rfl) (fun _ _ _ h=>h) (Or.inl ⟨by rfl,?_⟩) (by assumption) ?_;rotate_left
   ·(intro w hSw;(try dsimp only at hSw);go_simp<;>with_reducible rfl)
   (try simp only[Act.put,List.setIfInBounds_toArray,List.set_cons_zero,List.set_cons_succ])
   refine wpAnyH_take (i:=6) (oi:=_) (v:=?_) rfl (by kernel_rfl) (by kernel_rfl) (by kernel_rfl) (fun _ _ _ h=>h) (Or.inl ⟨by rfl,?_⟩) (by assumption) ?_;rotate_left
   ·(intro w hSw;(try dsimp only at hSw);go_simp<;>with_reducible rfl)
   (try simp only[Act.put,List.setIfInBounds_toArray,List.set_cons_zero,List.set_cons_succ])
   refine wpAnyH_take (i:=7) (oi:=_) (v:=?_) rfl (by kernel_rfl) (by kernel_rfl) (by kernel_rfl) (fun _ _ _ h=>h) (Or.inl ⟨by rfl,?_⟩) (by assumption) ?_;rotate_left
   ·(intro w hSw;(try dsimp only at hSw);go_simp<;>with_reducible rfl)
   (try simp only[Act.put,List.setIfInBounds_toArray,List.set_cons_zero,List.set_cons_succ])
   refine wpAnyH_take (i:=8) (oi:=_) (v:=?_) rfl (by kernel_rfl) (by kernel_rfl) (by kernel_rfl) (fun _ _ _ h=>h) (Or.inl ⟨by rfl,?_⟩) (by assumption) ?_;rotate_left
   ·(intro w hSw;(try dsimp only at hSw);go_simp<;>with_reducible rfl)
   (try simp only[Act.put,List.setIfInBounds_toArray,List.set_cons_zero,List.set_cons_succ])
   refine wpAnyH_take (i:=9) (oi:=_) (v:=?_) rfl (by kernel_rfl) (by kernel_rfl) (by kernel_rfl) (fun _ _ _ h=>h) (Or.inl ⟨by rfl,?_⟩) (by assumption) ?_;rotate_left
   ·(intro w hSw;(try dsimp only at hSw);go_simp<;>with_reducible rfl)
   (try simp only[Act.put,List.setIfInBounds_toArray,List.set_cons_zero,List.set_cons_succ])
   refine wpAnyH_take (i:=10) (oi:=_) (v:=?_) rfl (by kernel_rfl) (by kernel_rfl) (by kernel_rfl) (fun _ _ _ h=>h) (Or.inl ⟨by rfl,?_⟩) (by assumption) ?_;rotate_left
   ·(intro w hSw;(try dsimp only at hSw);go_simp<;>with_reducible rfl)
   (try simp only[Act.put,List.setIfInBounds_toArray,List.set_cons_zero,List.set_cons_succ])
   refine wpAnyH_take (i:=11) (oi:=_) (v:=?_) rfl (by kernel_rfl) (by kernel_rfl) (by kernel_rfl) (fun _ _ _ h=>h) (Or.inl ⟨by rfl,?_⟩) (by assumption) ?_;rotate_left
   ·(intro w hSw;(try dsimp only at hSw);go_simp<;>with_reducible rfl)
   (try simp only[Act.put,List.setIfInBounds_toArray,List.set_cons_zero,List.set_cons_succ])
   refine wpAnyH_take (i:=12) (oi:=_) (v:=?_) rfl (by kernel_rfl) (by kernel_rfl) (by kernel_rfl) (fun _ _ _ h=>h) (Or.inl ⟨by rfl,?_⟩) (by assumption) ?_;rotate_left
   ·(intro w hSw;(try dsimp only at hSw);go_simp<;>with_reducible rfl)
   (try simp only[Act.put,List.setIfInBounds_toArray,List.set_cons_zero,List.set_cons_succ])
   refine wpAnyH_take (i:=13) (oi:=_) (v:=?_) rfl (by kernel_rfl) (by kernel_rfl) (by kernel_rfl) (fun _ _ _ h=>h) (Or.inl ⟨by rfl,?_⟩) (by assumption) ?_;rotate_left
   ·(intro w hSw;(try dsimp only at hSw);go_simp<;>with_reducible rfl)
   (try simp only[Act.put,List.setIfInBounds_toArray,List.set_cons_zero,List.set_cons_succ])
   refine wpAnyH_take (i:=14) (oi:=_) (v:=?_) rfl (by kernel_rfl) (by kernel_rfl) (by kernel_rfl) (fun _ _ _ h=>h) (Or.inl ⟨by rfl,?_⟩) (by assumption) ?_;rotate_left
   ·(intro w hSw;(try dsimp only at hSw);go_simp<;>with_reducible rfl)
   (try simp only[Act.put,List.setIfInBounds_toArray,List.set_cons_zero,List.set_cons_succ])
   refine wpAnyH_ready (rs:=[1,15]) (by kernel_rfl) (by simp) ?_;refine AllReadyH.cons (o:=_) rfl (fun K hK=>?_) ?_
   ·go_simp
    refine hK.out _ _ ?_ (fun hHeld=>?_)
    ·(try dsimp only)
     (first|exact⟨by simpa using kq1,by simpa using k0,by simpa using k1⟩|exact⟨q2,q3,q5⟩|exact⟨cellk (below_alloc _ _) q2,cellk (below_alloc _ _) q3,cellk (below_alloc _ _) q5⟩|exact⟨x0,x1,x3⟩|exact⟨(World.cell?_setCell_other _ _ _ _ (by intro e;have:=congrArg Addr.block e;simp at this;omega)).trans x0,(World.cell?_setCell_other _ _ _ _ (by intro e;have:=congrArg Addr.block e;simp at this;omega)).trans x1,(World.cell?_setCell_other _ _ _ _ (by intro e;have:=congrArg Addr.block e;simp at this;omega)).trans x3⟩)
    clear hK K
    (try simp only[Act.put,List.setIfInBounds_toArray,List.set_cons_zero,List.set_cons_succ])
    refine wpAnyH_ready (rs:=[15]) (by kernel_rfl) (by simp) ?_;refine AllReadyH.cons (o:=_) rfl (fun K hK=>?_) ?_
    ·((go_simp;go_at_call 172;refine (hcall.out _ ((Below.refl _ _).drew)).mono ?_;rintro e2 w2 ⟨vb,bsb,rfl,hob,hfb,hbb⟩;obtain⟨ba,bn,bc,rfl⟩:=hob.1.shape;have hB2:=bnext (Below.refl wr.heap.size wr).drew hbb;have q2:=cellk hB2 kq1;have q3:=cellk hB2 k0;have q5:=cellk hB2 k1;have q4:=cellk hB2 kx1;have q7:=cellk ((Below.refl w2.heap.size w2).alloc (Nat.le_refl _) (.cells #[.int .i64 r,.slice ba bn bc] 83)) q4;have HC2c:=Lib.hid (HC1.out.grow hB2);have HOB:=Lib.hid hob;have HFB:Hid (∀b∈bsb,wr.heap.size≤b∧b<w2.heap.size):=(fun b hb'=>⟨by have:=(hfb.2 b hb').1;simpa using this,(hfb.2 b hb').2⟩));go_wp2_with fail)
     refine hK.out _ _ ?_ (fun hHeld=>?_)
     ·(try dsimp only)
      (first|exact⟨by simpa using kq1,by simpa using k0,by simpa using k1⟩|exact⟨q2,q3,q5⟩|exact⟨cellk (below_alloc _ _) q2,cellk (below_alloc _ _) q3,cellk (below_alloc _ _) q5⟩|exact⟨x0,x1,x3⟩|exact⟨(World.cell?_setCell_other _ _ _ _ (by intro e;have:=congrArg Addr.block e;simp at this;omega)).trans x0,(World.cell?_setCell_other _ _ _ _ (by intro e;have:=congrArg Addr.block e;simp at this;omega)).trans x1,(World.cell?_setCell_other _ _ _ _ (by intro e;have:=congrArg Addr.block e;simp at this;omega)).trans x3⟩)
     clear hK K
     (try simp only[Act.put,List.setIfInBounds_toArray,List.set_cons_zero,List.set_cons_succ])
     refine wpAnyH_take (i:=16) (oi:=_) (v:=?_) rfl (by kernel_rfl) (by kernel_rfl) (by kernel_rfl) (fun _ _ _ h=>h) (Or.inl ⟨by rfl,?_⟩) (by assumption) ?_;rotate_left
     ·(intro w hSw;(try dsimp only at hSw);go_simp<;>with_reducible rfl)
     (try simp only[Act.put,List.setIfInBounds_toArray,List.set_cons_zero,List.set_cons_succ])
     refine wpAnyH_ready (rs:=[17]) (by kernel_rfl) (by simp) ?_;refine AllReadyH.cons (o:=_) rfl (fun K hK=>?_) ?_
     ·go_simp
      refine hK.out _ _ ?_ (fun hHeld=>?_)
      ·(try dsimp only)
       (first|exact⟨by simpa using kq1,by simpa using k0,by simpa using k1⟩|exact⟨q2,q3,q5⟩|exact⟨cellk (below_alloc _ _) q2,cellk (below_alloc _ _) q3,cellk (below_alloc _ _) q5⟩|exact⟨x0,x1,x3⟩|exact⟨(World.cell?_setCell_other _ _ _ _ (by intro e;have:=congrArg Addr.block e;simp at this;omega)).trans x0,(World.cell?_setCell_other _ _ _ _ (by intro e;have:=congrArg Addr.block e;simp at this;omega)).trans x1,(World.cell?_setCell_other _ _ _ _ (by intro e;have:=congrArg Addr.block e;simp at this;omega)).trans x3⟩)
      clear hK K
      (try simp only[Act.put,List.setIfInBounds_toArray,List.set_cons_zero,List.set_cons_succ])
      refine wpAnyH_ready (rs:=[18]) (by kernel_rfl) (by simp) ?_;refine AllReadyH.cons (o:=_) rfl (fun K hK=>?_) ?_
      ·(refine step_app1D (by rfl) (.tmp 20) (.tmp 36) 27 (by rfl) 83 (.agg #[.int .i64 0,.slice none 0 0]) 2 32 Tryz.underlying27 info_Atom (by decide) (by decide) (by rfl) xv L.length cs (by rfl) (HC2c.out.grow ((Below.refl _ _).alloc (Nat.le_refl _) _)) w2.heap.size [.int .i64 r,.slice ba bn bc] (by rfl) (by simp[Value.oneCell']) (by rfl) (heap_alloc_new w2 _) (by omega) ?_;intro g' cap' w3 hown' ko hbl;have z1:=ko.cell HXB.out (cellk ((Below.refl _ _).alloc (Nat.le_refl _) _) q4);have z2:=ko.frozen (o:=1) (Nat.lt_of_lt_of_le HXS.out (Nat.le_trans hB2.size ((Below.refl w2.heap.size w2).alloc (Nat.le_refl _) _).size)) HXB.out (frok ((Below.refl _ _).alloc (Nat.le_refl _) _) q4 (frok hB2 kx1 kxf));have x0:=ko.cell HN0.out (cellk (below_alloc _ _) q2);have x1:=ko.cell HN1.out (cellk (below_alloc _ _) q3);have x3:=ko.cell HN1.out (cellk (below_alloc _ _) q5);have HNEW:=Lib.hid (QInv.step HQI.out HC1.out HC2.out hB2 ((Below.refl _ _).alloc (Nat.le_refl _) _) HOB.out HFB.out HDI.out hown' ko (fun b hb=>(hbl b hb).imp id (fun e=>by rw[e];exact Nat.le_refl _))))
       refine hK.out _ _ ?_ (fun hHeld=>?_)
       ·(try dsimp only)
        (first|exact⟨by simpa using kq1,by simpa using k0,by simpa using k1⟩|exact⟨q2,q3,q5⟩|exact⟨cellk (below_alloc _ _) q2,cellk (below_alloc _ _) q3,cellk (below_alloc _ _) q5⟩|exact⟨x0,x1,x3⟩|exact⟨(World.cell?_setCell_other _ _ _ _ (by intro e;have:=congrArg Addr.block e;simp at this;omega)).trans x0,(World.cell?_setCell_other _ _ _ _ (by intro e;have:=congrArg Addr.block e;simp at this;omega)).trans x1,(World.cell?_setCell_other _ _ _ _ (by intro e;have:=congrArg Addr.block e;simp at this;omega)).trans x3⟩)
       clear hK K
       (try simp only[Act.put,List.setIfInBounds_toArray,List.set_cons_zero,List.set_cons_succ])
       refine wpAnyH_take (i:=19) (oi:=_) (v:=?_) rfl (by kernel_rfl) (by kernel_rfl) (by kernel_rfl) (fun _ _ _ h=>h) (Or.inl ⟨by rfl,?_⟩) (by assumption) ?_;rotate_left
       ·(intro w hSw;(try dsimp only at hSw);go_simp<;>with_reducible rfl)
       (try simp only[Act.put,List.setIfInBounds_toArray,List.set_cons_zero,List.set_cons_succ])
       refine wpAnyH_ready (rs:=[20]) (by kernel_rfl) (by simp) ?_;refine AllReadyH.cons (o:=_) rfl (fun K hK=>?_) ?_
       ·go_simp
        refine hK.out _ _ ?_ (fun hHeld=>?_)
        ·(try dsimp only)
         (first|exact⟨by simpa using kq1,by simpa using k0,by simpa using k1⟩|exact⟨q2,q3,q5⟩|exact⟨cellk (below_alloc _ _) q2,cellk (below_alloc _ _) q3,cellk (below_alloc _ _) q5⟩|exact⟨x0,x1,x3⟩|exact⟨(World.cell?_setCell_other _ _ _ _ (by intro e;have:=congrArg Addr.block e;simp at this;omega)).trans x0,(World.cell?_setCell_other _ _ _ _ (by intro e;have:=congrArg Addr.block e;simp at this;omega)).trans x1,(World.cell?_setCell_other _ _ _ _ (by intro e;have:=congrArg Addr.block e;simp at this;omega)).trans x3⟩)
        clear hK K
        (try simp only[Act.put,List.setIfInBounds_toArray,List.set_cons_zero,List.set_cons_succ])
        refine wpAnyH_done (by kernel_rfl) ?_ _;refine NoPanic.normal ?_;go_wp2_with fail
        exact⟨⟨i+1,by omega,by simp,_,_,by rw[HRT.out];exact HNEW.out⟩,by simp[intOf];omega⟩
       exact AllReadyH.nil
      exact AllReadyH.nil
     exact AllReadyH.nil
    exact AllReadyH.nil
   refine AllReadyH.cons (o:=_) rfl (fun K hK=>?_) ?_
   ·((go_simp;go_at_call 172;refine (hcall.out _ ((Below.refl _ _).drew)).mono ?_;rintro e2 w2 ⟨vb,bsb,rfl,hob,hfb,hbb⟩;obtain⟨ba,bn,bc,rfl⟩:=hob.1.shape;have hB2:=bnext (Below.refl wr.heap.size wr).drew hbb;have q2:=cellk hB2 kq1;have q3:=cellk hB2 k0;have q5:=cellk hB2 k1;have q4:=cellk hB2 kx1;have q7:=cellk ((Below.refl w2.heap.size w2).alloc (Nat.le_refl _) (.cells #[.int .i64 r,.slice ba bn bc] 83)) q4;have HC2c:=Lib.hid (HC1.out.grow hB2);have HOB:=Lib.hid hob;have HFB:Hid (∀b∈bsb,wr.heap.size≤b∧b<w2.heap.size):=(fun b hb'=>⟨by have:=(hfb.2 b hb').1;simpa using this,(hfb.2 b hb').2⟩));go_wp2_with fail)
    refine hK.out _ _ ?_ (fun hHeld=>?_)
    ·(try dsimp only)
     (first|exact⟨by simpa using kq1,by simpa using k0,by simpa using k1⟩|exact⟨q2,q3,q5⟩|exact⟨cellk (below_alloc _ _) q2,cellk (below_alloc _ _) q3,cellk (below_alloc _ _) q5⟩|exact⟨x0,x1,x3⟩|exact⟨(World.cell?_setCell_other _ _ _ _ (by intro e;have:=congrArg Addr.block e;simp at this;omega)).trans x0,(World.cell?_setCell_other _ _ _ _ (by intro e;have:=congrArg Addr.block e;simp at this;omega)).trans x1,(World.cell?_setCell_other _ _ _ _ (by intro e;have:=congrArg Addr.block e;simp at this;omega)).trans x3⟩)
    clear hK K
    (try simp only[Act.put,List.setIfInBounds_toArray,List.set_cons_zero,List.set_cons_succ])
    refine wpAnyH_take (i:=16) (oi:=_) (v:=?_) rfl (by kernel_rfl) (by kernel_rfl) (by kernel_rfl) (fun _ _ _ h=>h) (Or.inl ⟨by rfl,?_⟩) (by assumption) ?_;rotate_left
    ·(intro w hSw;(try dsimp only at hSw);go_simp<;>with_reducible rfl)
    (try simp only[Act.put,List.setIfInBounds_toArray,List.set_cons_zero,List.set_cons_succ])
    refine wpAnyH_ready (rs:=[1,17]) (by kernel_rfl) (by simp) ?_;refine AllReadyH.cons (o:=_) rfl (fun K hK=>?_) ?_
    ·go_simp
     refine hK.out _ _ ?_ (fun hHeld=>?_)
     ·(try dsimp only)
      (first|exact⟨by simpa using kq1,by simpa using k0,by simpa using k1⟩|exact⟨q2,q3,q5⟩|exact⟨cellk (below_alloc _ _) q2,cellk (below_alloc _ _) q3,cellk (below_alloc _ _) q5⟩|exact⟨x0,x1,x3⟩|exact⟨(World.cell?_setCell_other _ _ _ _ (by intro e;have:=congrArg Addr.block e;simp at this;omega)).trans x0,(World.cell?_setCell_other _ _ _ _ (by intro e;have:=congrArg Addr.block e;simp at this;omega)).trans x1,(World.cell?_setCell_other _ _ _ _ (by intro e;have:=congrArg Addr.block e;simp at this;omega)).trans x3⟩)
     clear hK K
     (try simp only[Act.put,List.setIfInBounds_toArray,List.set_cons_zero,List.set_cons_succ])
     refine wpAnyH_ready (rs:=[17]) (by kernel_rfl) (by simp) ?_;refine AllReadyH.cons (o:=_) rfl (fun K hK=>?_) ?_
     ·go_simp
      refine hK.out _ _ ?_ (fun hHeld=>?_)
      ·(try dsimp only)
       (first|exact⟨by simpa using kq1,by simpa using k0,by simpa using k1⟩|exact⟨q2,q3,q5⟩|exact⟨cellk (below_alloc _ _) q2,cellk (below_alloc _ _) q3,cellk (below_alloc _ _) q5⟩|exact⟨x0,x1,x3⟩|exact⟨(World.cell?_setCell_other _ _ _ _ (by intro e;have:=congrArg Addr.block e;simp at this;omega)).trans x0,(World.cell?_setCell_other _ _ _ _ (by intro e;have:=congrArg Addr.block e;simp at this;omega)).trans x1,(World.cell?_setCell_other _ _ _ _ (by intro e;have:=congrArg Addr.block e;simp at this;omega)).trans x3⟩)
      clear hK K
      (try simp only[Act.put,List.setIfInBounds_toArray,List.set_cons_zero,List.set_cons_succ])
      refine wpAnyH_ready (rs:=[18]) (by kernel_rfl) (by simp) ?_;refine AllReadyH.cons (o:=_) rfl (fun K hK=>?_) ?_
      ·(refine step_app1D (by rfl) (.tmp 20) (.tmp 36) 27 (by rfl) 83 (.agg #[.int .i64 0,.slice none 0 0]) 2 32 Tryz.underlying27 info_Atom (by decide) (by decide) (by rfl) xv L.length cs (by rfl) (HC2c.out.grow ((Below.refl _ _).alloc (Nat.le_refl _) _)) w2.heap.size [.int .i64 r,.slice ba bn bc] (by rfl) (by simp[Value.oneCell']) (by rfl) (heap_alloc_new w2 _) (by omega) ?_;intro g' cap' w3 hown' ko hbl;have z1:=ko.cell HXB.out (cellk ((Below.refl _ _).alloc (Nat.le_refl _) _) q4);have z2:=ko.frozen (o:=1) (Nat.lt_of_lt_of_le HXS.out (Nat.le_trans hB2.size ((Below.refl w2.heap.size w2).alloc (Nat.le_refl _) _).size)) HXB.out (frok ((Below.refl _ _).alloc (Nat.le_refl _) _) q4 (frok hB2 kx1 kxf));have x0:=ko.cell HN0.out (cellk (below_alloc _ _) q2);have x1:=ko.cell HN1.out (cellk (below_alloc _ _) q3);have x3:=ko.cell HN1.out (cellk (below_alloc _ _) q5);have HNEW:=Lib.hid (QInv.step HQI.out HC1.out HC2.out hB2 ((Below.refl _ _).alloc (Nat.le_refl _) _) HOB.out HFB.out HDI.out hown' ko (fun b hb=>(hbl b hb).imp id (fun e=>by rw[e];exact Nat.le_refl _))))
       refine hK.out _ _ ?_ (fun hHeld=>?_)
       ·(try dsimp only)
        (first|exact⟨by simpa using kq1,by simpa using k0,by simpa using k1⟩|exact⟨q2,q3,q5⟩|exact⟨cellk (below_alloc _ _) q2,cellk (below_alloc _ _) q3,cellk (below_alloc _ _) q5⟩|exact⟨x0,x1,x3⟩|exact⟨(World.cell?_setCell_other _ _ _ _ (by intro e;have:=congrArg Addr.block e;simp at this;omega)).trans x0,(World.cell?_setCell_other _ _ _ _ (by intro e;have:=congrArg Addr.block e;simp at this;omega)).trans x1,(World.cell?_setCell_other _ _ _ _ (by intro e;have:=congrArg Addr.block e;simp at this;omega)).trans x3⟩)
       clear hK K
       (try simp only[Act.put,List.setIfInBounds_toArray,List.set_cons_zero,List.set_cons_succ])
       refine wpAnyH_take (i:=19) (oi:=_) (v:=?_) rfl (by kernel_rfl) (by kernel_rfl) (by kernel_rfl) (fun _ _ _ h=>h) (Or.inl ⟨by rfl,?_⟩) (by assumption) ?_;rotate_left
       ·(intro w hSw;(try dsimp only at hSw);go_simp<;>with_reducible rfl)
       (try simp only[Act.put,List.setIfInBounds_toArray,List.set_cons_zero,List.set_cons_succ])
       refine wpAnyH_ready (rs:=[20]) (by kernel_rfl) (by simp) ?_;refine AllReadyH.cons (o:=_) rfl (fun K hK=>?_) ?_
       ·go_simp
        refine hK.out _ _ ?_ (fun hHeld=>?_)
        ·(try dsimp only)
         (first|exact⟨by simpa using kq1,by simpa using k0,by simpa using k1⟩|exact⟨q2,q3,q5⟩|exact⟨cellk (below_alloc _ _) q2,cellk (below_alloc _ _) q3,cellk (below_alloc _ _) q5⟩|exact⟨x0,x1,x3⟩|exact⟨(World.cell?_setCell_other _ _ _ _ (by intro e;have:=congrArg Addr.block e;simp at this;omega)).trans x0,(World.cell?_setCell_other _ _ _ _ (by intro e;have:=congrArg Addr.block e;simp at this;omega)).trans x1,(World.cell?_setCell_other _ _ _ _ (by intro e;have:=congrArg Addr.block e;simp at this;omega)).trans x3⟩)
        clear hK K
        (try simp only[Act.put,List.setIfInBounds_toArray,List.set_cons_zero,List.set_cons_succ])
        refine wpAnyH_done (by kernel_rfl) ?_ _;refine NoPanic.normal ?_;go_wp2_with fail
        exact⟨⟨i+1,by omega,by simp,_,_,by rw[HRT.out];exact HNEW.out⟩,by simp[intOf];omega⟩
       exact AllReadyH.nil
      exact AllReadyH.nil
     exact AllReadyH.nil
    refine AllReadyH.cons (o:=_) rfl (fun K hK=>?_) ?_
    ·go_simp
     refine hK.out _ _ ?_ (fun hHeld=>?_)
     ·(try dsimp only)
      (first|exact⟨by simpa using kq1,by simpa using k0,by simpa using k1⟩|exact⟨q2,q3,q5⟩|exact⟨cellk (below_alloc _ _) q2,cellk (below_alloc _ _) q3,cellk (below_alloc _ _) q5⟩|exact⟨x0,x1,x3⟩|exact⟨(World.cell?_setCell_other _ _ _ _ (by intro e;have:=congrArg Addr.block e;simp at this;omega)).trans x0,(World.cell?_setCell_other _ _ _ _ (by intro e;have:=congrArg Addr.block e;simp at this;omega)).trans x1,(World.cell?_setCell_other _ _ _ _ (by intro e;have:=congrArg Addr.block e;simp at this;omega)).trans x3⟩)
     clear hK K
     (try simp only[Act.put,List.setIfInBounds_toArray,List.set_cons_zero,List.set_cons_succ])
     refine wpAnyH_ready (rs:=[1]) (by kernel_rfl) (by simp) ?_;refine AllReadyH.cons (o:=_) rfl (fun K hK=>?_) ?_
     ·go_simp
      refine hK.out _ _ ?_ (fun hHeld=>?_)
      ·(try dsimp only)
       (first|exact⟨by simpa using kq1,by simpa using k0,by simpa using k1⟩|exact⟨q2,q3,q5⟩|exact⟨cellk (below_alloc _ _) q2,cellk (below_alloc _ _) q3,cellk (below_alloc _ _) q5⟩|exact⟨x0,x1,x3⟩|exact⟨(World.cell?_setCell_other _ _ _ _ (by intro e;have:=congrArg Addr.block e;simp at this;omega)).trans x0,(World.cell?_setCell_other _ _ _ _ (by intro e;have:=congrArg Addr.block e;simp at this;omega)).trans x1,(World.cell?_setCell_other _ _ _ _ (by intro e;have:=congrArg Addr.block e;simp at this;omega)).trans x3⟩)
      clear hK K
      (try simp only[Act.put,List.setIfInBounds_toArray,List.set_cons_zero,List.set_cons_succ])
      refine wpAnyH_ready (rs:=[18]) (by kernel_rfl) (by simp) ?_;refine AllReadyH.cons (o:=_) rfl (fun K hK=>?_) ?_
      ·(refine step_app1D (by rfl) (.tmp 20) (.tmp 36) 27 (by rfl) 83 (.agg #[.int .i64 0,.slice none 0 0]) 2 32 Tryz.underlying27 info_Atom (by decide) (by decide) (by rfl) xv L.length cs (by rfl) (HC2c.out.grow ((Below.refl _ _).alloc (Nat.le_refl _) _)) w2.heap.size [.int .i64 r,.slice ba bn bc] (by rfl) (by simp[Value.oneCell']) (by rfl) (heap_alloc_new w2 _) (by omega) ?_;intro g' cap' w3 hown' ko hbl;have z1:=ko.cell HXB.out (cellk ((Below.refl _ _).alloc (Nat.le_refl _) _) q4);have z2:=ko.frozen (o:=1) (Nat.lt_of_lt_of_le HXS.out (Nat.le_trans hB2.size ((Below.refl w2.heap.size w2).alloc (Nat.le_refl _) _).size)) HXB.out (frok ((Below.refl _ _).alloc (Nat.le_refl _) _) q4 (frok hB2 kx1 kxf));have x0:=ko.cell HN0.out (cellk (below_alloc _ _) q2);have x1:=ko.cell HN1.out (cellk (below_alloc _ _) q3);have x3:=ko.cell HN1.out (cellk (below_alloc _ _) q5);have HNEW:=Lib.hid (QInv.step HQI.out HC1.out HC2.out hB2 ((Below.refl _ _).alloc (Nat.le_refl _) _) HOB.out HFB.out HDI.out hown' ko (fun b hb=>(hbl b hb).imp id (fun e=>by rw[e];exact Nat.le_refl _))))
       refine hK.out _ _ ?_ (fun hHeld=>?_)
       ·(try dsimp only)
        (first|exact⟨by simpa using kq1,by simpa using k0,by simpa using k1⟩|exact⟨q2,q3,q5⟩|exact⟨cellk (below_alloc _ _) q2,cellk (below_alloc _ _) q3,cellk (below_alloc _ _) q5⟩|exact⟨x0,x1,x3⟩|exact⟨(World.cell?_setCell_other _ _ _ _ (by intro e;have:=congrArg Addr.block e;simp at this;omega)).trans x0,(World.cell?_setCell_other _ _ _ _ (by intro e;have:=congrArg Addr.block e;simp at this;omega)).trans x1,(World.cell?_setCell_other _ _ _ _ (by intro e;have:=congrArg Addr.block e;simp at this;omega)).trans x3⟩)
       clear hK K
       (try simp only[Act.put,List.setIfInBounds_toArray,List.set_cons_zero,List.set_cons_succ])
       refine wpAnyH_take (i:=19) (oi:=_) (v:=?_) rfl (by kernel_rfl) (by kernel_rfl) (by kernel_rfl) (fun _ _ _ h=>h) (Or.inl ⟨by rfl,?_⟩) (by assumption) ?_;rotate_left
       ·(intro w hSw;(try dsimp only at hSw);go_simp<;>with_reducible rfl)
       (try simp only[Act.put,List.setIfInBounds_toArray,List.set_cons_zero,List.set_cons_succ])
       refine wpAnyH_ready (rs:=[20]) (by kernel_rfl) (by simp) ?_;refine AllReadyH.cons (o:=_) rfl (fun K hK=>?_) ?_
       ·go_simp
        refine hK.out _ _ ?_ (fun hHeld=>?_)
        ·(try dsimp only)
         (first|exact⟨by simpa using kq1,by simpa using k0,by simpa using k1⟩|exact⟨q2,q3,q5⟩|exact⟨cellk (below_alloc _ _) q2,cellk (below_alloc _ _) q3,cellk (below_alloc _ _) q5⟩|exact⟨x0,x1,x3⟩|exact⟨(World.cell?_setCell_other _ _ _ _ (by intro e;have:=congrArg Addr.block e;simp at this;omega)).trans x0,(World.cell?_setCell_other _ _ _ _ (by intro e;have:=congrArg Addr.block e;simp at this;omega)).trans x1,(World.cell?_setCell_other _ _ _ _ (by intro e;have:=congrArg Addr.block e;simp at this;omega)).trans x3⟩)
        clear hK K
        (try simp only[Act.put,List.setIfInBounds_toArray,List.set_cons_zero,List.set_cons_succ])
        refine wpAnyH_done (by kernel_rfl) ?_ _;refine NoPanic.normal ?_;go_wp2_with fail
        exact⟨⟨i+1,by omega,by simp,_,_,by rw[HRT.out];exact HNEW.out⟩,by simp[intOf];omega⟩
       exact AllReadyH.nil
      exact AllReadyH.nil
     exact AllReadyH.nil
    exact AllReadyH.nil
   exact AllReadyH.nil
  ·obtain rfl:i=n:=by omega
   have hT:Hid (d.2.take i=d.2):=List.take_of_length_le (by rw[HL.out];exact Nat.le_refl _);have kr0:=cellk hbq KR0.out;have kr1:=cellk hbq KR1.out;have kf0:=frok hbq KR0.out KF0.out;have kf1:=frok hbq KR1.out KF1.out;have HBR:=Lib.hid hbq;have HSZ:=Lib.hid hsz
   obtain⟨xa,xn,xc,rfl⟩:∃a n c,xv=.slice a n c:=by
    obtain⟨cs,hc,_⟩:=hba;rcases hc.form with⟨rfl,_⟩|⟨g,cap,rfl,_,_⟩
    ·exact⟨_,_,_,rfl⟩
    ·exact⟨_,_,_,rfl⟩
   clear hbq hba hxs hsz;go_wp2_with fail
   have hk:OnlyAt [w.heap.size+1] wr ((wr.setCell ⟨w.heap.size+1,0,none⟩ (.slice va vm vc)).setCell ⟨w.heap.size+1,1,none⟩ (.slice xa xn xc)):=(OnlyAt.setCell wr _ _ _).same (OnlyAt.setCell _ _ _ _);obtain⟨h5,h6⟩:=HQI.out.done HOH.out HFH.out HSZ.out hk;rw[hT.out] at h6;obtain⟨_,_,_,e6,h6⟩:=h6
   cases e6;exact bodyPost_ret (v:=.agg #[.slice va vm vc,.slice xa xn xc]) (by simp[results,Tryz.results141,go_sem,kr0,kr1]) rfl ⟨_,rfl,⟨_,_,_,_,_,_,rfl,h5,h6⟩,OnlyAt.below (bnext HBW.out HBR.out) hk (fun x hx=>by simp at hx;omega)⟩
end Go.Proofs.YtpedpbbiamhgdaaGreatDoor
