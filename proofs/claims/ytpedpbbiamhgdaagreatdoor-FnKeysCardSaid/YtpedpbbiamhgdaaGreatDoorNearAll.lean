import Derived.Test.YtpedpbbiamhgdaaGreatDoorDqAll
import Derived.Test.YtpedpbbiamhgdaaGreatDoorSq4all
import Derived.Deep.RegionLaw
import Derived.Deep.RegionHeld3
import Derived.Test.YtpedpbbiamhgdaaGreatDoorBase
import Derived.Deep.RegionLawGrows
import Derived.Test.YtpedpbbiamhgdaaGreatDoorSfineV
namespace Go.Proofs.YtpedpbbiamhgdaaGreatDoor
open Go Go.Sort Go.RowKit
set_option linter.unusedVariables false
set_option linter.unusedSimpArgs false
def GaveOwI (w:World) (l:List Int) (e:Ending) (w':World):Prop:=∃v,e=.returned v∧OwI w.heap.size w' v l∧Below w.heap.size w w'
def CopQ (d:QueryD) (w:World) (e:Ending) (w':World):Prop:=∃hv bv T,e=.returned (.agg #[hv,bv])∧OwI w.heap.size w' hv d.1∧(∀b∈blk hv,b<T)∧DAs T w' bv d.2∧w.heap.size≤T∧T≤w'.heap.size∧Below w.heap.size w w'
theorem blk_nodup (v:Value):(blk v).Nodup:=by unfold blk;split<;>simp
theorem nodup_snoc {bss:List (List Nat)} {bs:List Nat} (h:bss.flatten.Nodup) (h2:bs.Nodup) (hd:∀b∈bss.flatten,b∉bs):Hid ((bss++[bs]).flatten.Nodup):=by
 unfold Hid;rw[List.flatten_append];refine List.nodup_append.2 ⟨h,by simpa using h2,fun a ha b hb e=>?_⟩;have hb2:b∈bs:=by simpa using hb
 exact hd a ha (e ▸ hb2)
set_option maxHeartbeats 2000000 in
theorem sTermsOw_any (w:World) (v v':Value) (l tl:List Int) (h:Ints w v l) (h':Ints w v' tl) (hs:l.length≤1048576) :
  Calls Tryz.prog 172 #[v,v'] w (GaveOwI w (l.map (termTo tl))):=by
 obtain⟨a,n,cap,rfl,hl,hn,hm,hcell⟩:=h.cases;obtain⟨a',cap',rfl⟩:=h'.form;unfold maxLen at hm;have HC:=Lib.hid hcell;have HL:=Lib.hid hl;have HI:=Lib.hid h.1;have HV:=Lib.hid h';have hnl:n≤1048576:=by omega
 have hT:=Lib.hid (fun w t h=>sTerm4_any w t (.slice a' tl.length cap') tl h);have hb1:=Built.lit .i64 3 w w [] (Nat.zero_le _) (Below.refl _ _);have HB1:=Lib.hid hb1
 have HALL:Hid (∀x∈l.map (termTo tl),inI x):=fun x hx=>by
  obtain⟨y,hy,rfl⟩:=List.mem_map.1 hx;exact termTo_inI h'.1 (h.1 y hy)
 generalize tl.length=tn at *;clear h h' hcell hl hs hb1;go_enter Tryz.func172,Tryz.ntmps172
 go_wp2_with fail
 go_loopw [5,6] (fun ov iv wr=>∃i:Nat,i≤n∧iv=.int .i64 i∧Built .i64 3 w wr ov ((l.take i).map (termTo tl))) (fun _ iv _=>n-(intOf iv).toNat)
 case atStart=>exact⟨0,by omega,rfl,by simpa using HB1.out⟩
 case round=>
  obtain⟨i,hi,rfl,hown⟩:=hrel;have HOWN:=Lib.hid hown;have hbq:=hown.below;by_cases hlt:i<n
  ·obtain⟨b,off,rfl,hbw,hc⟩:=HC.out (by omega);have c1:=cellk hbq (hc i hlt);have HS:=Lib.hid (map_take1 (l:=l) (k:=i) (termTo tl) (by rw[HL.out];exact hlt));have hln:((l.take i).map (termTo tl)).length≤i:=by simp;omega
   have hcall:=Lib.hid (hT.out wr (l.getD i 0) (HV.out.below hbq));have hi0:(0:Int)≤i:=by omega
   have hi1:(i:Int)<n:=by omega
   generalize termTo tl (l.getD i 0)=y at *;generalize l.getD i 0=x at *;generalize (l.take i).map (termTo tl)=M at *;clear hc hbw hbq hown;go_wp2_with fail
   refine hcall.out.mono ?_;rintro e w2 ⟨rfl,hb⟩;have HO2:=Lib.hid (HOWN.out.grow hb);clear hb;go_wp2_with (at_builtin;refine wpList_app1 rfl (.tmp 21) (.tmp 23) 24 rfl .i64 3 0 8 Tryz.underlying24 info_i64 (by decide) _ M rfl HO2.out _ rfl (by omega) ?_)
   intro v' w3 hown';have HO4:=Lib.hid hown';clear hown';go_wp2_with fail
   exact⟨⟨i+1,by omega,by simp,by rw[HS.out];exact HO4.out⟩,by simp[intOf];omega⟩
  ·obtain rfl:i=n:=by omega
   have HT:Hid (l.take i=l):=List.take_of_length_le (by rw[HL.out];exact Nat.le_refl _);clear hown hbq;go_wp2_with fail
   go_ret;have h5:=HOWN.out;rw[HT.out] at h5;exact⟨_,rfl,OwI.of h5 (Nat.le_refl _) HALL.out,h5.below⟩
set_option maxRecDepth 100000 in
set_option maxHeartbeats 8000000 in
theorem sRenameOw_any (w:World) (v vt:Value) (d:QueryD) (tl:List Int) (h:RdQuery w v d) (ht:Ints w vt tl) (hs1:d.1.length≤1048576) (hs2:sizeAtomS d.2≤1048576) :
  Calls Tryz.prog 141 #[v,vt] w (CopQ (renQ d tl) w):=by
 obtain⟨a0,n0,c0,a,n,c,rfl,hi,ha⟩:=h;obtain⟨hl,hn,hm,hcell⟩:=ha.at
 have hnl:n≤1048576:=by unfold sizeAtomS at hs2;omega
 unfold maxLen at hm;obtain⟨a',cap',rfl⟩:=ht.form;have HC:=Lib.hid hcell;have HL:=Lib.hid hl;have HT:=Lib.hid ht;have HI:=Lib.hid hi;have HSA:=Lib.hid hs2;have hT:=Lib.hid (fun w v l h h' hz=>sTerms4_any w v (.slice a' tl.length cap') l tl h h' hz);have hb0:∀a b,Below w.heap.size w ((w.alloc a).alloc b):=fun a b=>((Below.refl _ _).alloc (Nat.le_refl _) _).alloc (by simp) _
 have HB0:=Lib.hid hb0;have hh:=Lib.hid (fun w h h'=>sTermsOw_any w (.slice a0 n0 c0) (.slice a' tl.length cap') d.1 tl h h' hs1);generalize htn:tl.length=tn at *;clear htn;clear ha hcell hl ht hi hs2 hb0 hs1;go_enter Tryz.func141,Tryz.ntmps141
 go_wp2_with fail
 refine (hh.out _ (HI.out.below (HB0.out _ _)) (HT.out.below (HB0.out _ _))).mono ?_;rintro e W1 ⟨vh,rfl,hoh,hb⟩;have HBW:=Lib.hid (bnext (HB0.out _ _) hb);have kq1:=cellk hb (b:=w.heap.size) (o:=1) (v:=.slice a n c) (by simp);have kr0:=cellk hb (b:=w.heap.size+1) (o:=0) (v:=.slice none 0 0) (by simp);have kr1:=cellk hb (b:=w.heap.size+1) (o:=1) (v:=.slice none 0 0) (by simp);have kf0:W1.frozen? ⟨w.heap.size+1,0,none⟩=false:=frok hb (v:=.slice none 0 0) (by simp) (by simp);have kf1:W1.frozen? ⟨w.heap.size+1,1,none⟩=false:=frok hb (v:=.slice none 0 0) (by simp) (by simp);have HOH:=Lib.hid hoh;have hsz:w.heap.size+1<W1.heap.size:=by have:=hb.size;simp at this;omega
 have HFH:Hid (∀b∈blk vh,w.heap.size+1<b∧b<W1.heap.size):=fun b hb'=>by have:=hoh.lo b hb';simp at this;omega
 have HOW:Hid (OwI w.heap.size W1 vh (d.1.map (termTo tl))):=hoh.mono (by simp;omega);clear hb hoh HOH;obtain⟨va,vc,e9⟩:=HOW.out.shape;obtain⟨vm,hvm⟩:∃m,m=(d.1.map (termTo tl)).length:=⟨_,rfl⟩
 rw[←hvm] at e9;subst e9;clear hvm;go_wp2_with fail
 have HW:=Lib.hid (rfl:W1=W1);obtain⟨W,hW⟩:∃W,W=W1.alloc (.cells #[.slice va vm vc,.slice none 0 0] 29):=⟨_,rfl⟩
 have hbW:Below W1.heap.size W1 W:=by rw[hW];exact (Below.refl _ _).alloc (Nat.le_refl _) _
 have hWs:W.heap.size=W1.heap.size+1:=by rw[hW];simp
 have HQ0:Hid (QInv 83 W1 W (.slice va vm vc) [] (.slice none 0 0) []):=by
  refine⟨BuiltA.nil _ _ _ hbW,by rw[hW];simp,by rw[hW];simp,by rw[hW];simp,fun b hb=>by simp[blk] at hb,fun b hb=>by simp at hb,by omega⟩
 have KQ1:=Lib.hid kq1;have KR0:=Lib.hid kr0;have KR1:=Lib.hid kr1;have KF0:=Lib.hid kf0;have KF1:=Lib.hid kf1;rw[←hW];clear hW hbW hWs kq1 kr0 kr1 kf0 kf1 HW
 go_loopw [6] (fun iv wr=>∃i:Nat,i≤n∧iv=.int .i64 i∧∃xv bss,QInv 83 W1 wr (.slice va vm vc) ((d.2.take i).map (renA tl)) xv bss∧Hid (bss.flatten.Nodup)) (fun iv _=>n-(intOf iv).toNat)
 case atStart=>exact⟨0,by omega,rfl,_,_,by simpa using HQ0.out,by unfold Hid;simp⟩
 case round=>
  obtain⟨i,hi,rfl,xv,bss,hq,HND⟩:=hrel;have HQI:=Lib.hid hq;obtain⟨hba,kx1,kx0,kxf,hx6,_,hxs⟩:=hq;have HXB:Hid (W1.heap.size∉blk xv):=fun hx=>(hx6 _ hx).1 rfl
  have HXS:=Lib.hid hxs;clear hx6;have hbq:=hba.below;have kq1:=cellk hbq KQ1.out;by_cases hlt:i<n
  ·obtain⟨b,off,rfl,hbw,hc⟩:=HC.out (by omega);obtain⟨e,hd⟩:∃e,d.2[i]?=some e:=⟨d.2[i]'(by rw[HL.out];exact hlt),List.getElem?_eq_getElem (by rw[HL.out];exact hlt)⟩
   obtain⟨ea,em,ec,c0,c1,hdi,hints⟩:=atomAt (n:=n) hc i e hd;have hww:=bnext HBW.out hbq;have k0:=cellk hww c0;have k1:=cellk hww c1;have HRT:=Lib.hid (ren_take tl hd);have hi0:(0:Int)≤i:=by omega
   have hi1:(i:Int)<n:=by omega
   have hlen2:((d.2.take i).map (renA tl)).length≤i:=by simp;omega
   have hez:e.2.length≤1048576:=by
    have h5:=sumArgs_take hd;have h6:=sumArgs_le d.2 (i+1);have h7:=HSA.out;unfold sizeAtomS at h7;omega
   have HINT:=Lib.hid (hints.below hww);have HTT:=Lib.hid (HT.out.below hww);have HDI:=Lib.hid hdi;have hcall:=Lib.hid (fun wc hb=>hT.out wc (.slice ea em ec) e.2 (HINT.out.below (w':=wc) hb) (HTT.out.below (w':=wc) hb) hez);obtain⟨cs,hc1,hc2⟩:=hba;have HC1:=Lib.hid hc1;have HC2:=Lib.hid hc2;have HBR:=Lib.hid hbq
   have hbx:∀x∈blk xv,W1.heap.size≤x:=by
    rcases hc1.form with⟨e1,_⟩|⟨g,cap,e1,_,_⟩
    ·rw[e1];intro x hx;simp[blk] at hx
    ·rw[e1] at hc1 ⊢;intro x hx;simp[blk] at hx;subst hx;exact hc1.lt.1
   have hnb:w.heap.size<W1.heap.size:=by omega
   have hnb2:b<W1.heap.size:=by omega
   have HN0:Hid (w.heap.size∉blk xv):=fun hx=>by have:=hbx _ hx;omega
   have HN1:Hid (b∉blk xv):=fun hx=>by have:=hbx _ hx;omega
   clear hbx;generalize hL:(d.2.take i).map (renA tl)=L at *;generalize e.1=r at *;clear hc hbw hd c0 c1 hdi hints hww hez hc1 hc2 hbq;go_wp2_with fail
   refine wp_region_noPanic ?_;refine wp_region_held_drew (S:=(fun w'=>w'.cell? ⟨w.heap.size,1,none⟩=some (.slice (some ⟨b,off,none⟩) n c)∧w'.cell? ⟨b,off+i*2,none⟩=some (.int .i64 r)∧w'.cell? ⟨b,off+i*2+1,none⟩=some (.slice ea em ec))) (by kernel_rfl) ?_ (fun hHeld=>?_)
   ·(try dsimp only)
    (first|exact⟨by simpa using kq1,by simpa using k0,by simpa using k1⟩|exact⟨q2,q3,q5⟩|exact⟨cellk (below_alloc _ _) q2,cellk (below_alloc _ _) q3,cellk (below_alloc _ _) q5⟩|exact⟨x0,x1,x3⟩|exact⟨(World.cell?_setCell_other _ _ _ _ (by intro e;have:=congrArg Addr.block e;simp at this;omega)).trans x0,(World.cell?_setCell_other _ _ _ _ (by intro e;have:=congrArg Addr.block e;simp at this;omega)).trans x1,(World.cell?_setCell_other _ _ _ _ (by intro e;have:=congrArg Addr.block e;simp at this;omega)).trans x3⟩)
   refine wpAnyH_take (i:=0) (oi:=_) (v:=?_) rfl (by kernel_rfl) (by kernel_rfl) (by kernel_rfl) (fun _ _ _ h=>h) (Or.inl ⟨by rfl,?_⟩) (by assumption) ?_;rotate_left
   ·(intro w hSw;(try dsimp only at hSw);go_simp<;>with_reducible rfl)
   (try simp only[Act.put,List.setIfInBounds_toArray,List.set_cons_zero,List.set_cons_succ])
   refine wpAnyH_take (i:=2) (oi:=_) (v:=?_) rfl (by kernel_rfl) (by kernel_rfl) (by kernel_rfl) (fun _ _ _ h=>h) (Or.inl ⟨by rfl,?_⟩) (by assumption) ?_;rotate_left
   ·(intro w hSw;(try dsimp only at hSw);go_simp<;>with_reducible rfl)
   (try simp only[Act.put,List.setIfInBounds_toArray,List.set_cons_zero,List.set_cons_succ])
   refine wpAnyH_take (i:=3) (oi:=_) (v:=?_) rfl (by kernel_rfl) (by kernel_rfl) (by kernel_rfl) (fun _ _ _ h=>h) (Or.inl ⟨by rfl,?_⟩) (by assumption) ?_;rotate_left
   ·(intro w hSw;(try dsimp only at hSw);go_simp<;>with_reducible rfl)
   (try simp only[Act.put,List.setIfInBounds_toArray,List.set_cons_zero,List.set_cons_succ])
   refine wpAnyH_take (i:=4) (oi:=_) (v:=?_) rfl (by kernel_rfl) (by kernel_rfl) (by kernel_rfl) (fun _ _ _ h=>h) (Or.inl ⟨by rfl,?_⟩) (by assumption) ?_;rotate_left
   ·(intro w hSw;(try dsimp only at hSw);go_simp<;>with_reducible rfl)
   (try simp only[Act.put,List.setIfInBounds_toArray,List.set_cons_zero,List.set_cons_succ])
   refine wpAnyH_take (i:=5) (oi:=_) (v:=?_) rfl (by kernel_rfl) (by kernel_rfl) (by kernel_rfl) (fun _ _ _ h=>h) (Or.inl ⟨by rfl,?_⟩) (by assumption) ?_;rotate_left
   ·(intro w hSw;(try dsimp only at hSw);go_simp<;>with_reducible rfl)
   (try simp only[Act.put,List.setIfInBounds_toArray,List.set_cons_zero,List.set_cons_succ])
   refine wpAnyH_take (i:=6) (oi:=_) (v:=?_) rfl (by kernel_rfl) (by kernel_rfl) (by kernel_rfl) (fun _ _ _ h=>h) (Or.inl ⟨by rfl,?_⟩) (by assumption) ?_;rotate_left
   ·(intro w hSw;(try dsimp only at hSw);go_simp<;>with_reducible rfl)
   (try simp only[Act.put,List.setIfInBounds_toArray,List.set_cons_zero,List.set_cons_succ])
   refine wpAnyH_take (i:=7) (oi:=_) (v:=?_) rfl (by kernel_rfl) (by kernel_rfl) (by kernel_rfl) (fun _ _ _ h=>h) (Or.inl ⟨by rfl,?_⟩) (by assumption) ?_;rotate_left
   ·(intro w hSw;(try dsimp only at hSw);go_simp<;>with_reducible rfl)
   (try simp only[Act.put,List.setIfInBounds_toArray,List.set_cons_zero,List.set_cons_succ])
   refine wpAnyH_take (i:=8) (oi:=_) (v:=?_) rfl (by kernel_rfl) (by kernel_rfl) (by kernel_rfl) (fun _ _ _ h=>h) (Or.inl ⟨by rfl,?_⟩) (by assumption) ?_;rotate_left
   ·(intro w hSw;(try dsimp only at hSw);go_simp<;>with_reducible rfl)
   (try simp only[Act.put,List.setIfInBounds_toArray,List.set_cons_zero,List.set_cons_succ])
   refine wpAnyH_take (i:=9) (oi:=_) (v:=?_) rfl (by kernel_rfl) (by kernel_rfl) (by kernel_rfl) (fun _ _ _ h=>h) (Or.inl ⟨by rfl,?_⟩) (by assumption) ?_;rotate_left
   ·(intro w hSw;(try dsimp only at hSw);go_simp<;>with_reducible rfl)
   (try simp only[Act.put,List.setIfInBounds_toArray,List.set_cons_zero,List.set_cons_succ])
   refine wpAnyH_take (i:=10) (oi:=_) (v:=?_) rfl (by kernel_rfl) (by kernel_rfl) (by kernel_rfl) (fun _ _ _ h=>h) (Or.inl ⟨by rfl,?_⟩) (by assumption) ?_;rotate_left
   ·(intro w hSw;(try dsimp only at hSw);go_simp<;>with_reducible rfl)
   (try simp only[Act.put,List.setIfInBounds_toArray,List.set_cons_zero,List.set_cons_succ])
   refine wpAnyH_take (i:=11) (oi:=_) (v:=?_) rfl (by kernel_rfl) (by kernel_rfl) (by kernel_rfl) (fun _ _ _ h=>h) (Or.inl ⟨by rfl,?_⟩) (by assumption) ?_;rotate_left
   ·(intro w hSw;(try dsimp only at hSw);go_simp<;>with_reducible rfl)
   (try simp only[Act.put,List.setIfInBounds_toArray,List.set_cons_zero,List.set_cons_succ])
   refine wpAnyH_take (i:=12) (oi:=_) (v:=?_) rfl (by kernel_rfl) (by kernel_rfl) (by kernel_rfl) (fun _ _ _ h=>h) (Or.inl ⟨by rfl,?_⟩) (by assumption) ?_;rotate_left
   ·(intro w hSw;(try dsimp only at hSw);go_simp<;>with_reducible rfl)
   (try simp only[Act.put,List.setIfInBounds_toArray,List.set_cons_zero,List.set_cons_succ])
   refine wpAnyH_take (i:=13) (oi:=_) (v:=?_) rfl (by kernel_rfl) (by kernel_rfl) (by kernel_rfl) (fun _ _ _ h=>h) (Or.inl ⟨by rfl,?_⟩) (by assumption) ?_;rotate_left
   ·(intro w hSw;(try dsimp only at hSw);go_simp<;>with_reducible rfl)
   (try simp only[Act.put,List.setIfInBounds_toArray,List.set_cons_zero,List.set_cons_succ])
   refine wpAnyH_take (i:=14) (oi:=_) (v:=?_) rfl (by kernel_rfl) (by kernel_rfl) (by kernel_rfl) (fun _ _ _ h=>h) (Or.inl ⟨by rfl,?_⟩) (by assumption) ?_;rotate_left
   ·(intro w hSw;(try dsimp only at hSw);go_simp<;>with_reducible rfl)
   (try simp only[Act.put,List.setIfInBounds_toArray,List.set_cons_zero,List.set_cons_succ])
   refine wpAnyH_ready (rs:=[1,15]) (by kernel_rfl) (by simp) ?_;refine AllReadyH.cons (o:=_) rfl (fun K hK=>?_) ?_
   ·go_simp
    refine hK.out _ _ ?_ (fun hHeld=>?_)
    ·(try dsimp only)
     (first|exact⟨by simpa using kq1,by simpa using k0,by simpa using k1⟩|exact⟨q2,q3,q5⟩|exact⟨cellk (below_alloc _ _) q2,cellk (below_alloc _ _) q3,cellk (below_alloc _ _) q5⟩|exact⟨x0,x1,x3⟩|exact⟨(World.cell?_setCell_other _ _ _ _ (by intro e;have:=congrArg Addr.block e;simp at this;omega)).trans x0,(World.cell?_setCell_other _ _ _ _ (by intro e;have:=congrArg Addr.block e;simp at this;omega)).trans x1,(World.cell?_setCell_other _ _ _ _ (by intro e;have:=congrArg Addr.block e;simp at this;omega)).trans x3⟩)
    clear hK K
    (try simp only[Act.put,List.setIfInBounds_toArray,List.set_cons_zero,List.set_cons_succ])
    refine wpAnyH_ready (rs:=[15]) (by kernel_rfl) (by simp) ?_;refine AllReadyH.cons (o:=_) rfl (fun K hK=>?_) ?_
    ·((go_simp;go_at_call 172;refine (hcall.out _ ((Below.refl _ _).drew)).mono ?_;rintro e2 w2 ⟨vb,bsb,rfl,hob,hfb,hbb⟩;obtain⟨ba,bn,bc,rfl⟩:=hob.1.shape;have hB2:=bnext (Below.refl wr.heap.size wr).drew hbb;have q2:=cellk hB2 kq1;have q3:=cellk hB2 k0;have q5:=cellk hB2 k1;have q4:=cellk hB2 kx1;have q7:=cellk ((Below.refl w2.heap.size w2).alloc (Nat.le_refl _) (.cells #[.int .i64 r,.slice ba bn bc] 83)) q4;have HC2c:=Lib.hid (HC1.out.grow hB2);have HOB:=Lib.hid hob;have HFN:=Lib.hid hfb.1;have HFB:Hid (∀b∈bsb,wr.heap.size≤b∧b<w2.heap.size):=(fun b hb'=>⟨by have:=(hfb.2 b hb').1;simpa using this,(hfb.2 b hb').2⟩));go_wp2_with fail)
     refine hK.out _ _ ?_ (fun hHeld=>?_)
     ·(try dsimp only)
      (first|exact⟨by simpa using kq1,by simpa using k0,by simpa using k1⟩|exact⟨q2,q3,q5⟩|exact⟨cellk (below_alloc _ _) q2,cellk (below_alloc _ _) q3,cellk (below_alloc _ _) q5⟩|exact⟨x0,x1,x3⟩|exact⟨(World.cell?_setCell_other _ _ _ _ (by intro e;have:=congrArg Addr.block e;simp at this;omega)).trans x0,(World.cell?_setCell_other _ _ _ _ (by intro e;have:=congrArg Addr.block e;simp at this;omega)).trans x1,(World.cell?_setCell_other _ _ _ _ (by intro e;have:=congrArg Addr.block e;simp at this;omega)).trans x3⟩)
     clear hK K
     (try simp only[Act.put,List.setIfInBounds_toArray,List.set_cons_zero,List.set_cons_succ])
     refine wpAnyH_take (i:=16) (oi:=_) (v:=?_) rfl (by kernel_rfl) (by kernel_rfl) (by kernel_rfl) (fun _ _ _ h=>h) (Or.inl ⟨by rfl,?_⟩) (by assumption) ?_;rotate_left
     ·(intro w hSw;(try dsimp only at hSw);go_simp<;>with_reducible rfl)
     (try simp only[Act.put,List.setIfInBounds_toArray,List.set_cons_zero,List.set_cons_succ])
     refine wpAnyH_ready (rs:=[17]) (by kernel_rfl) (by simp) ?_;refine AllReadyH.cons (o:=_) rfl (fun K hK=>?_) ?_
     ·go_simp
      refine hK.out _ _ ?_ (fun hHeld=>?_)
      ·(try dsimp only)
       (first|exact⟨by simpa using kq1,by simpa using k0,by simpa using k1⟩|exact⟨q2,q3,q5⟩|exact⟨cellk (below_alloc _ _) q2,cellk (below_alloc _ _) q3,cellk (below_alloc _ _) q5⟩|exact⟨x0,x1,x3⟩|exact⟨(World.cell?_setCell_other _ _ _ _ (by intro e;have:=congrArg Addr.block e;simp at this;omega)).trans x0,(World.cell?_setCell_other _ _ _ _ (by intro e;have:=congrArg Addr.block e;simp at this;omega)).trans x1,(World.cell?_setCell_other _ _ _ _ (by intro e;have:=congrArg Addr.block e;simp at this;omega)).trans x3⟩)
      clear hK K
      (try simp only[Act.put,List.setIfInBounds_toArray,List.set_cons_zero,List.set_cons_succ])
      refine wpAnyH_ready (rs:=[18]) (by kernel_rfl) (by simp) ?_;refine AllReadyH.cons (o:=_) rfl (fun K hK=>?_) ?_
      ·(refine step_app1D (by rfl) (.tmp 20) (.tmp 36) 27 (by rfl) 83 (.agg #[.int .i64 0,.slice none 0 0]) 2 32 Tryz.underlying27 info_Atom (by decide) (by decide) (by rfl) xv L.length cs (by rfl) (HC2c.out.grow ((Below.refl _ _).alloc (Nat.le_refl _) _)) w2.heap.size [.int .i64 r,.slice ba bn bc] (by rfl) (by simp[Value.oneCell']) (by rfl) (heap_alloc_new w2 _) (by omega) ?_;intro g' cap' w3 hown' ko hbl;have z1:=ko.cell HXB.out (cellk ((Below.refl _ _).alloc (Nat.le_refl _) _) q4);have z2:=ko.frozen (o:=1) (Nat.lt_of_lt_of_le HXS.out (Nat.le_trans hB2.size ((Below.refl w2.heap.size w2).alloc (Nat.le_refl _) _).size)) HXB.out (frok ((Below.refl _ _).alloc (Nat.le_refl _) _) q4 (frok hB2 kx1 kxf));have x0:=ko.cell HN0.out (cellk (below_alloc _ _) q2);have x1:=ko.cell HN1.out (cellk (below_alloc _ _) q3);have x3:=ko.cell HN1.out (cellk (below_alloc _ _) q5);have HNEW:=Lib.hid (QInv.step HQI.out HC1.out HC2.out hB2 ((Below.refl _ _).alloc (Nat.le_refl _) _) HOB.out HFB.out HDI.out hown' ko (fun b hb=>(hbl b hb).imp id (fun e=>by rw[e];exact Nat.le_refl _))))
       refine hK.out _ _ ?_ (fun hHeld=>?_)
       ·(try dsimp only)
        (first|exact⟨by simpa using kq1,by simpa using k0,by simpa using k1⟩|exact⟨q2,q3,q5⟩|exact⟨cellk (below_alloc _ _) q2,cellk (below_alloc _ _) q3,cellk (below_alloc _ _) q5⟩|exact⟨x0,x1,x3⟩|exact⟨(World.cell?_setCell_other _ _ _ _ (by intro e;have:=congrArg Addr.block e;simp at this;omega)).trans x0,(World.cell?_setCell_other _ _ _ _ (by intro e;have:=congrArg Addr.block e;simp at this;omega)).trans x1,(World.cell?_setCell_other _ _ _ _ (by intro e;have:=congrArg Addr.block e;simp at this;omega)).trans x3⟩)
       clear hK K
       (try simp only[Act.put,List.setIfInBounds_toArray,List.set_cons_zero,List.set_cons_succ])
       refine wpAnyH_take (i:=19) (oi:=_) (v:=?_) rfl (by kernel_rfl) (by kernel_rfl) (by kernel_rfl) (fun _ _ _ h=>h) (Or.inl ⟨by rfl,?_⟩) (by assumption) ?_;rotate_left
       ·(intro w hSw;(try dsimp only at hSw);go_simp<;>with_reducible rfl)
       (try simp only[Act.put,List.setIfInBounds_toArray,List.set_cons_zero,List.set_cons_succ])
       refine wpAnyH_ready (rs:=[20]) (by kernel_rfl) (by simp) ?_;refine AllReadyH.cons (o:=_) rfl (fun K hK=>?_) ?_
       ·go_simp
        refine hK.out _ _ ?_ (fun hHeld=>?_)
        ·(try dsimp only)
         (first|exact⟨by simpa using kq1,by simpa using k0,by simpa using k1⟩|exact⟨q2,q3,q5⟩|exact⟨cellk (below_alloc _ _) q2,cellk (below_alloc _ _) q3,cellk (below_alloc _ _) q5⟩|exact⟨x0,x1,x3⟩|exact⟨(World.cell?_setCell_other _ _ _ _ (by intro e;have:=congrArg Addr.block e;simp at this;omega)).trans x0,(World.cell?_setCell_other _ _ _ _ (by intro e;have:=congrArg Addr.block e;simp at this;omega)).trans x1,(World.cell?_setCell_other _ _ _ _ (by intro e;have:=congrArg Addr.block e;simp at this;omega)).trans x3⟩)
        clear hK K
        (try simp only[Act.put,List.setIfInBounds_toArray,List.set_cons_zero,List.set_cons_succ])
        refine wpAnyH_done (by kernel_rfl) ?_ _;refine NoPanic.normal ?_;go_wp2_with fail
        exact⟨⟨i+1,by omega,by simp,_,_,by rw[HRT.out];exact HNEW.out,nodup_snoc HND.out HFN.out (fun b hb hm=>by have:=(HQI.out.2.2.2.2.2.1 b hb).2;have:=(HFB.out b hm).1;omega)⟩,by simp[intOf];omega⟩
       exact AllReadyH.nil
      exact AllReadyH.nil
     exact AllReadyH.nil
    exact AllReadyH.nil
   refine AllReadyH.cons (o:=_) rfl (fun K hK=>?_) ?_
   ·((go_simp;go_at_call 172;refine (hcall.out _ ((Below.refl _ _).drew)).mono ?_;rintro e2 w2 ⟨vb,bsb,rfl,hob,hfb,hbb⟩;obtain⟨ba,bn,bc,rfl⟩:=hob.1.shape;have hB2:=bnext (Below.refl wr.heap.size wr).drew hbb;have q2:=cellk hB2 kq1;have q3:=cellk hB2 k0;have q5:=cellk hB2 k1;have q4:=cellk hB2 kx1;have q7:=cellk ((Below.refl w2.heap.size w2).alloc (Nat.le_refl _) (.cells #[.int .i64 r,.slice ba bn bc] 83)) q4;have HC2c:=Lib.hid (HC1.out.grow hB2);have HOB:=Lib.hid hob;have HFN:=Lib.hid hfb.1;have HFB:Hid (∀b∈bsb,wr.heap.size≤b∧b<w2.heap.size):=(fun b hb'=>⟨by have:=(hfb.2 b hb').1;simpa using this,(hfb.2 b hb').2⟩));go_wp2_with fail)
    refine hK.out _ _ ?_ (fun hHeld=>?_)
    ·(try dsimp only)
     (first|exact⟨by simpa using kq1,by simpa using k0,by simpa using k1⟩|exact⟨q2,q3,q5⟩|exact⟨cellk (below_alloc _ _) q2,cellk (below_alloc _ _) q3,cellk (below_alloc _ _) q5⟩|exact⟨x0,x1,x3⟩|exact⟨(World.cell?_setCell_other _ _ _ _ (by intro e;have:=congrArg Addr.block e;simp at this;omega)).trans x0,(World.cell?_setCell_other _ _ _ _ (by intro e;have:=congrArg Addr.block e;simp at this;omega)).trans x1,(World.cell?_setCell_other _ _ _ _ (by intro e;have:=congrArg Addr.block e;simp at this;omega)).trans x3⟩)
    clear hK K
    (try simp only[Act.put,List.setIfInBounds_toArray,List.set_cons_zero,List.set_cons_succ])
    refine wpAnyH_take (i:=16) (oi:=_) (v:=?_) rfl (by kernel_rfl) (by kernel_rfl) (by kernel_rfl) (fun _ _ _ h=>h) (Or.inl ⟨by rfl,?_⟩) (by assumption) ?_;rotate_left
    ·(intro w hSw;(try dsimp only at hSw);go_simp<;>with_reducible rfl)
    (try simp only[Act.put,List.setIfInBounds_toArray,List.set_cons_zero,List.set_cons_succ])
    refine wpAnyH_ready (rs:=[1,17]) (by kernel_rfl) (by simp) ?_;refine AllReadyH.cons (o:=_) rfl (fun K hK=>?_) ?_
    ·go_simp
     refine hK.out _ _ ?_ (fun hHeld=>?_)
     ·(try dsimp only)
      (first|exact⟨by simpa using kq1,by simpa using k0,by simpa using k1⟩|exact⟨q2,q3,q5⟩|exact⟨cellk (below_alloc _ _) q2,cellk (below_alloc _ _) q3,cellk (below_alloc _ _) q5⟩|exact⟨x0,x1,x3⟩|exact⟨(World.cell?_setCell_other _ _ _ _ (by intro e;have:=congrArg Addr.block e;simp at this;omega)).trans x0,(World.cell?_setCell_other _ _ _ _ (by intro e;have:=congrArg Addr.block e;simp at this;omega)).trans x1,(World.cell?_setCell_other _ _ _ _ (by intro e;have:=congrArg Addr.block e;simp at this;omega)).trans x3⟩)
     clear hK K
     (try simp only[Act.put,List.setIfInBounds_toArray,List.set_cons_zero,List.set_cons_succ])
     refine wpAnyH_ready (rs:=[17]) (by kernel_rfl) (by simp) ?_;refine AllReadyH.cons (o:=_) rfl (fun K hK=>?_) ?_
     ·go_simp
      refine hK.out _ _ ?_ (fun hHeld=>?_)
      ·(try dsimp only)
       (first|exact⟨by simpa using kq1,by simpa using k0,by simpa using k1⟩|exact⟨q2,q3,q5⟩|exact⟨cellk (below_alloc _ _) q2,cellk (below_alloc _ _) q3,cellk (below_alloc _ _) q5⟩|exact⟨x0,x1,x3⟩|exact⟨(World.cell?_setCell_other _ _ _ _ (by intro e;have:=congrArg Addr.block e;simp at this;omega)).trans x0,(World.cell?_setCell_other _ _ _ _ (by intro e;have:=congrArg Addr.block e;simp at this;omega)).trans x1,(World.cell?_setCell_other _ _ _ _ (by intro e;have:=congrArg Addr.block e;simp at this;omega)).trans x3⟩)
      clear hK K
      (try simp only[Act.put,List.setIfInBounds_toArray,List.set_cons_zero,List.set_cons_succ])
      refine wpAnyH_ready (rs:=[18]) (by kernel_rfl) (by simp) ?_;refine AllReadyH.cons (o:=_) rfl (fun K hK=>?_) ?_
      ·(refine step_app1D (by rfl) (.tmp 20) (.tmp 36) 27 (by rfl) 83 (.agg #[.int .i64 0,.slice none 0 0]) 2 32 Tryz.underlying27 info_Atom (by decide) (by decide) (by rfl) xv L.length cs (by rfl) (HC2c.out.grow ((Below.refl _ _).alloc (Nat.le_refl _) _)) w2.heap.size [.int .i64 r,.slice ba bn bc] (by rfl) (by simp[Value.oneCell']) (by rfl) (heap_alloc_new w2 _) (by omega) ?_;intro g' cap' w3 hown' ko hbl;have z1:=ko.cell HXB.out (cellk ((Below.refl _ _).alloc (Nat.le_refl _) _) q4);have z2:=ko.frozen (o:=1) (Nat.lt_of_lt_of_le HXS.out (Nat.le_trans hB2.size ((Below.refl w2.heap.size w2).alloc (Nat.le_refl _) _).size)) HXB.out (frok ((Below.refl _ _).alloc (Nat.le_refl _) _) q4 (frok hB2 kx1 kxf));have x0:=ko.cell HN0.out (cellk (below_alloc _ _) q2);have x1:=ko.cell HN1.out (cellk (below_alloc _ _) q3);have x3:=ko.cell HN1.out (cellk (below_alloc _ _) q5);have HNEW:=Lib.hid (QInv.step HQI.out HC1.out HC2.out hB2 ((Below.refl _ _).alloc (Nat.le_refl _) _) HOB.out HFB.out HDI.out hown' ko (fun b hb=>(hbl b hb).imp id (fun e=>by rw[e];exact Nat.le_refl _))))
       refine hK.out _ _ ?_ (fun hHeld=>?_)
       ·(try dsimp only)
        (first|exact⟨by simpa using kq1,by simpa using k0,by simpa using k1⟩|exact⟨q2,q3,q5⟩|exact⟨cellk (below_alloc _ _) q2,cellk (below_alloc _ _) q3,cellk (below_alloc _ _) q5⟩|exact⟨x0,x1,x3⟩|exact⟨(World.cell?_setCell_other _ _ _ _ (by intro e;have:=congrArg Addr.block e;simp at this;omega)).trans x0,(World.cell?_setCell_other _ _ _ _ (by intro e;have:=congrArg Addr.block e;simp at this;omega)).trans x1,(World.cell?_setCell_other _ _ _ _ (by intro e;have:=congrArg Addr.block e;simp at this;omega)).trans x3⟩)
       clear hK K
       (try simp only[Act.put,List.setIfInBounds_toArray,List.set_cons_zero,List.set_cons_succ])
       refine wpAnyH_take (i:=19) (oi:=_) (v:=?_) rfl (by kernel_rfl) (by kernel_rfl) (by kernel_rfl) (fun _ _ _ h=>h) (Or.inl ⟨by rfl,?_⟩) (by assumption) ?_;rotate_left
       ·(intro w hSw;(try dsimp only at hSw);go_simp<;>with_reducible rfl)
       (try simp only[Act.put,List.setIfInBounds_toArray,List.set_cons_zero,List.set_cons_succ])
       refine wpAnyH_ready (rs:=[20]) (by kernel_rfl) (by simp) ?_;refine AllReadyH.cons (o:=_) rfl (fun K hK=>?_) ?_
       ·go_simp
        refine hK.out _ _ ?_ (fun hHeld=>?_)
        ·(try dsimp only)
         (first|exact⟨by simpa using kq1,by simpa using k0,by simpa using k1⟩|exact⟨q2,q3,q5⟩|exact⟨cellk (below_alloc _ _) q2,cellk (below_alloc _ _) q3,cellk (below_alloc _ _) q5⟩|exact⟨x0,x1,x3⟩|exact⟨(World.cell?_setCell_other _ _ _ _ (by intro e;have:=congrArg Addr.block e;simp at this;omega)).trans x0,(World.cell?_setCell_other _ _ _ _ (by intro e;have:=congrArg Addr.block e;simp at this;omega)).trans x1,(World.cell?_setCell_other _ _ _ _ (by intro e;have:=congrArg Addr.block e;simp at this;omega)).trans x3⟩)
        clear hK K
        (try simp only[Act.put,List.setIfInBounds_toArray,List.set_cons_zero,List.set_cons_succ])
        refine wpAnyH_done (by kernel_rfl) ?_ _;refine NoPanic.normal ?_;go_wp2_with fail
        exact⟨⟨i+1,by omega,by simp,_,_,by rw[HRT.out];exact HNEW.out,nodup_snoc HND.out HFN.out (fun b hb hm=>by have:=(HQI.out.2.2.2.2.2.1 b hb).2;have:=(HFB.out b hm).1;omega)⟩,by simp[intOf];omega⟩
       exact AllReadyH.nil
      exact AllReadyH.nil
     exact AllReadyH.nil
    refine AllReadyH.cons (o:=_) rfl (fun K hK=>?_) ?_
    ·go_simp
     refine hK.out _ _ ?_ (fun hHeld=>?_)
     ·(try dsimp only)
      (first|exact⟨by simpa using kq1,by simpa using k0,by simpa using k1⟩|exact⟨q2,q3,q5⟩|exact⟨cellk (below_alloc _ _) q2,cellk (below_alloc _ _) q3,cellk (below_alloc _ _) q5⟩|exact⟨x0,x1,x3⟩|exact⟨(World.cell?_setCell_other _ _ _ _ (by intro e;have:=congrArg Addr.block e;simp at this;omega)).trans x0,(World.cell?_setCell_other _ _ _ _ (by intro e;have:=congrArg Addr.block e;simp at this;omega)).trans x1,(World.cell?_setCell_other _ _ _ _ (by intro e;have:=congrArg Addr.block e;simp at this;omega)).trans x3⟩)
     clear hK K
     (try simp only[Act.put,List.setIfInBounds_toArray,List.set_cons_zero,List.set_cons_succ])
     refine wpAnyH_ready (rs:=[1]) (by kernel_rfl) (by simp) ?_;refine AllReadyH.cons (o:=_) rfl (fun K hK=>?_) ?_
     ·go_simp
      refine hK.out _ _ ?_ (fun hHeld=>?_)
      ·(try dsimp only)
       (first|exact⟨by simpa using kq1,by simpa using k0,by simpa using k1⟩|exact⟨q2,q3,q5⟩|exact⟨cellk (below_alloc _ _) q2,cellk (below_alloc _ _) q3,cellk (below_alloc _ _) q5⟩|exact⟨x0,x1,x3⟩|exact⟨(World.cell?_setCell_other _ _ _ _ (by intro e;have:=congrArg Addr.block e;simp at this;omega)).trans x0,(World.cell?_setCell_other _ _ _ _ (by intro e;have:=congrArg Addr.block e;simp at this;omega)).trans x1,(World.cell?_setCell_other _ _ _ _ (by intro e;have:=congrArg Addr.block e;simp at this;omega)).trans x3⟩)
      clear hK K
      (try simp only[Act.put,List.setIfInBounds_toArray,List.set_cons_zero,List.set_cons_succ])
      refine wpAnyH_ready (rs:=[18]) (by kernel_rfl) (by simp) ?_;refine AllReadyH.cons (o:=_) rfl (fun K hK=>?_) ?_
      ·(refine step_app1D (by rfl) (.tmp 20) (.tmp 36) 27 (by rfl) 83 (.agg #[.int .i64 0,.slice none 0 0]) 2 32 Tryz.underlying27 info_Atom (by decide) (by decide) (by rfl) xv L.length cs (by rfl) (HC2c.out.grow ((Below.refl _ _).alloc (Nat.le_refl _) _)) w2.heap.size [.int .i64 r,.slice ba bn bc] (by rfl) (by simp[Value.oneCell']) (by rfl) (heap_alloc_new w2 _) (by omega) ?_;intro g' cap' w3 hown' ko hbl;have z1:=ko.cell HXB.out (cellk ((Below.refl _ _).alloc (Nat.le_refl _) _) q4);have z2:=ko.frozen (o:=1) (Nat.lt_of_lt_of_le HXS.out (Nat.le_trans hB2.size ((Below.refl w2.heap.size w2).alloc (Nat.le_refl _) _).size)) HXB.out (frok ((Below.refl _ _).alloc (Nat.le_refl _) _) q4 (frok hB2 kx1 kxf));have x0:=ko.cell HN0.out (cellk (below_alloc _ _) q2);have x1:=ko.cell HN1.out (cellk (below_alloc _ _) q3);have x3:=ko.cell HN1.out (cellk (below_alloc _ _) q5);have HNEW:=Lib.hid (QInv.step HQI.out HC1.out HC2.out hB2 ((Below.refl _ _).alloc (Nat.le_refl _) _) HOB.out HFB.out HDI.out hown' ko (fun b hb=>(hbl b hb).imp id (fun e=>by rw[e];exact Nat.le_refl _))))
       refine hK.out _ _ ?_ (fun hHeld=>?_)
       ·(try dsimp only)
        (first|exact⟨by simpa using kq1,by simpa using k0,by simpa using k1⟩|exact⟨q2,q3,q5⟩|exact⟨cellk (below_alloc _ _) q2,cellk (below_alloc _ _) q3,cellk (below_alloc _ _) q5⟩|exact⟨x0,x1,x3⟩|exact⟨(World.cell?_setCell_other _ _ _ _ (by intro e;have:=congrArg Addr.block e;simp at this;omega)).trans x0,(World.cell?_setCell_other _ _ _ _ (by intro e;have:=congrArg Addr.block e;simp at this;omega)).trans x1,(World.cell?_setCell_other _ _ _ _ (by intro e;have:=congrArg Addr.block e;simp at this;omega)).trans x3⟩)
       clear hK K
       (try simp only[Act.put,List.setIfInBounds_toArray,List.set_cons_zero,List.set_cons_succ])
       refine wpAnyH_take (i:=19) (oi:=_) (v:=?_) rfl (by kernel_rfl) (by kernel_rfl) (by kernel_rfl) (fun _ _ _ h=>h) (Or.inl ⟨by rfl,?_⟩) (by assumption) ?_;rotate_left
       ·(intro w hSw;(try dsimp only at hSw);go_simp<;>with_reducible rfl)
       (try simp only[Act.put,List.setIfInBounds_toArray,List.set_cons_zero,List.set_cons_succ])
       refine wpAnyH_ready (rs:=[20]) (by kernel_rfl) (by simp) ?_;refine AllReadyH.cons (o:=_) rfl (fun K hK=>?_) ?_
       ·go_simp
        refine hK.out _ _ ?_ (fun hHeld=>?_)
        ·(try dsimp only)
         (first|exact⟨by simpa using kq1,by simpa using k0,by simpa using k1⟩|exact⟨q2,q3,q5⟩|exact⟨cellk (below_alloc _ _) q2,cellk (below_alloc _ _) q3,cellk (below_alloc _ _) q5⟩|exact⟨x0,x1,x3⟩|exact⟨(World.cell?_setCell_other _ _ _ _ (by intro e;have:=congrArg Addr.block e;simp at this;omega)).trans x0,(World.cell?_setCell_other _ _ _ _ (by intro e;have:=congrArg Addr.block e;simp at this;omega)).trans x1,(World.cell?_setCell_other _ _ _ _ (by intro e;have:=congrArg Addr.block e;simp at this;omega)).trans x3⟩)
        clear hK K
        (try simp only[Act.put,List.setIfInBounds_toArray,List.set_cons_zero,List.set_cons_succ])
        refine wpAnyH_done (by kernel_rfl) ?_ _;refine NoPanic.normal ?_;go_wp2_with fail
        exact⟨⟨i+1,by omega,by simp,_,_,by rw[HRT.out];exact HNEW.out,nodup_snoc HND.out HFN.out (fun b hb hm=>by have:=(HQI.out.2.2.2.2.2.1 b hb).2;have:=(HFB.out b hm).1;omega)⟩,by simp[intOf];omega⟩
       exact AllReadyH.nil
      exact AllReadyH.nil
     exact AllReadyH.nil
    exact AllReadyH.nil
   exact AllReadyH.nil
  ·obtain rfl:i=n:=by omega
   have hT:Hid (d.2.take i=d.2):=List.take_of_length_le (by rw[HL.out];exact Nat.le_refl _);have kr0:=cellk hbq KR0.out;have kr1:=cellk hbq KR1.out;have kf0:=frok hbq KR0.out KF0.out;have kf1:=frok hbq KR1.out KF1.out;have HBR:=Lib.hid hbq;have HSZ:=Lib.hid hsz
   obtain⟨xa,xn,xc,rfl⟩:∃a n c,xv=.slice a n c:=by
    obtain⟨cs,hc,_⟩:=hba;rcases hc.form with⟨rfl,_⟩|⟨g,cap,rfl,_,_⟩
    ·exact⟨_,_,_,rfl⟩
    ·exact⟨_,_,_,rfl⟩
   clear hbq hba hxs hsz;go_wp2_with fail
   have hk:OnlyAt [w.heap.size+1] wr ((wr.setCell ⟨w.heap.size+1,0,none⟩ (.slice va vm vc)).setCell ⟨w.heap.size+1,1,none⟩ (.slice xa xn xc)):=(OnlyAt.setCell wr _ _ _).same (OnlyAt.setCell _ _ _ _)
   have hD:DAs W1.heap.size wr (.slice xa xn xc) (d.2.map (renA tl)):=by
    have h6:=HQI.out;rw[hT.out] at h6;obtain⟨q1,_,_,_,q5,q6,_⟩:=h6;exact⟨W1,bss,rfl,q1,List.nodup_append.2 ⟨blk_nodup _,HND.out,fun a ha b hb e=>(q5 a ha).2 (e ▸ hb)⟩,fun b hb=>⟨Nat.le_of_lt (q6 b hb).1,(q6 b hb).2⟩⟩
   have hD2:=hD.only (Nat.le_refl _) hk (fun b hb=>by simp at hb;have:=HSZ.out;omega);have hH:=(HOW.out.below HBR.out).only hk (fun b hb hx=>by simp at hx;have:=(HFH.out b hb).1;omega);have hsz2:=HBR.out.size;have hszk:=hk.size;exact bodyPost_ret (v:=.agg #[.slice va vm vc,.slice xa xn xc]) (by simp[results,Tryz.results141,go_sem,kr0,kr1]) rfl ⟨_,_,W1.heap.size,rfl,hH,fun b hb=>(HFH.out b hb).2,hD2,by have:=HSZ.out;omega,by omega,OnlyAt.below (bnext HBW.out HBR.out) hk (fun x hx=>by simp at hx;omega)⟩
end Go.Proofs.YtpedpbbiamhgdaaGreatDoor
namespace Go.Proofs.YtpedpbbiamhgdaaGreatDoor
open Go Go.Sort Go.RowKit
set_option linter.unusedVariables false
theorem map_nilN (l:List Int):l.map (termTo [])=l:=by
 induction l with
 |nil=>rfl
 |cons a l ih=>
  rw[List.map_cons,ih]
  have:termTo [] a=a:=by
   unfold termTo;have h:inB a 0 ((([]:List Int).length:Int)-1)=false:=by simp[inB];omega
   rw[h];rfl
  rw[this]
theorem renQ_nilN (d:QueryD):renQ d []=d:=by
 have h:∀l:List AtomD,l.map (renA [])=l:=fun l=>by
  induction l with
  |nil=>rfl
  |cons a l ih=>rw[List.map_cons,ih];unfold renA;rw[map_nilN]
 unfold renQ;rw[map_nilN,h]
theorem frzN {w:World} (o1:Obj) (cs:Array Value) (T:TypeId) (o3:Obj) (i:Nat) (v:Value) (h:cs[i]?=some v):(((w.alloc o1).alloc (.cells cs T)).alloc o3).frozen? ⟨w.heap.size+1,i,none⟩=false:=by
 have e:(w.alloc o1).heap.size=w.heap.size+1:=by simp
 have h1:=newBox (w.alloc o1) cs T i v h
 have h2:((w.alloc o1).alloc (.cells cs T)).frozen? ⟨(w.alloc o1).heap.size,i,none⟩=false:=by
  generalize w.alloc o1=w';simp
 rw[e] at h1 h2;exact frok (below_alloc _ _) h1 h2
set_option maxHeartbeats 4000000 in
theorem sCopyO_any (w:World) (v:Value) (d:QueryD) (h:RdQuery w v d) (hs1:d.1.length≤1048576) (hs2:sizeAtomS d.2≤1048576) :
  Calls Tryz.prog 90 #[v] w (CopQ d w):=by
 have HR:=Lib.hid (fun W (hb:Below w.heap.size w W) vt (ht:Ints W vt [])=>sRenameOw_any W v vt d [] (RdQuery.below h hb) ht hs1 hs2);rw[renQ_nilN] at HR;obtain⟨a0,n0,c0,a,n,c,rfl,hi,ha⟩:=h;have hb0:∀a b c,Below w.heap.size w (((w.alloc a).alloc b).alloc c):=fun a b c=>(((Below.refl _ _).alloc (Nat.le_refl _) _).alloc (by simp) _).alloc (by simp;omega) _
 have HB0:=Lib.hid hb0;clear hi ha hb0 hs1 hs2;go_enter Tryz.func90,Tryz.ntmps90
 go_wp2_with fail
 obtain⟨W,hW⟩:∃W,W=((w.alloc (.cells #[.slice a0 n0 c0,.slice a n c] 29)).alloc (.cells #[.slice none 0 0,.slice none 0 0] 29)).alloc (.cells #[] 3):=⟨_,rfl⟩
 have HBW:Hid (Below w.heap.size w W):=by rw[hW];exact HB0.out _ _ _
 have k0:W.cell? ⟨w.heap.size+1,0,none⟩=some (.slice none 0 0):=by rw[hW];exact box2 w _ _ _ _ 0 _ rfl
 have k1:W.cell? ⟨w.heap.size+1,1,none⟩=some (.slice none 0 0):=by rw[hW];exact box2 w _ _ _ _ 1 _ rfl
 have f0:W.frozen? ⟨w.heap.size+1,0,none⟩=false:=by rw[hW];exact frzN _ _ _ _ 0 _ rfl
 have f1:W.frozen? ⟨w.heap.size+1,1,none⟩=false:=by rw[hW];exact frzN _ _ _ _ 1 _ rfl
 have hsz:W.heap.size=w.heap.size+3:=by rw[hW];simp
 rw[←hW];clear hW;refine (HR.out _ HBW.out _ ⟨fun x h=>by simp at h,.inl ⟨_,0,rfl,Nat.zero_le _,rfl⟩⟩).mono ?_;rintro e w1 ⟨hv,bv,T,rfl,ho,hlt,hd,hT0,hT1,hb⟩;replace f0:=frok hb k0 f0;replace f1:=frok hb k1 f1;replace k0:=cellk hb k0;replace k1:=cellk hb k1;have HB1:=Lib.hid (bnext HBW.out hb);have HO:=Lib.hid ho;have HLT:=Lib.hid hlt;have HD:=Lib.hid hd;obtain⟨ra,rc,rfl⟩:=ho.shape;obtain⟨ra',rc',rfl⟩:=hd.shape;clear hb ho hlt hd HR;go_wp2_with fail
 have hk:OnlyAt [w.heap.size+1] w1 ((w1.setCell ⟨w.heap.size+1,0,none⟩ (.slice ra d.1.length rc)).setCell ⟨w.heap.size+1,1,none⟩ (.slice ra' d.2.length rc')):=(OnlyAt.setCell w1 _ _ _).same (OnlyAt.setCell _ _ _ _);exact bodyPost_ret (v:=.agg #[.slice ra d.1.length rc,.slice ra' d.2.length rc']) (by simp[results,Tryz.results90,go_sem,k0,k1]) rfl ⟨_,_,T,rfl,(HO.out.mono (by omega)).only hk (fun b hb hm=>by have:=(HO.out.lo b hb).1;simp at hm;omega),HLT.out,HD.out.only (Nat.le_refl _) hk (fun b hm=>by simp at hm;omega),by omega,Nat.le_trans hT1 hk.size,OnlyAt.below HB1.out hk (fun x hx=>by simp at hx;omega)⟩
def FtA (w:World) (v:Value) (l:List AtomD) (bs:List Nat):Prop:=(∀b∈bs,b<w.heap.size)∧∀(w':World) (ds:List Nat),OnlyAt ds w w'→(∀b∈bs,b∉ds)→RdAtomS w' v l
theorem FtA.rd {w:World} {v:Value} {l:List AtomD} {bs:List Nat} (h:FtA w v l bs):RdAtomS w v l:=h.2 w [] (OnlyAt.refl _ _) (fun _ _ hm=>by simp at hm)
theorem FtA.only {w w':World} {v:Value} {l:List AtomD} {bs ds:List Nat} (h:FtA w v l bs) (ko:OnlyAt ds w w') (hn:∀b∈bs,b∉ds):FtA w' v l bs:=
 ⟨fun b hb=>Nat.lt_of_lt_of_le (h.1 b hb) ko.size,fun w2 es k hd=>h.2 w2 (ds++es) (ko.trans k) (fun b hb hm=>by
  rcases List.mem_append.1 hm with h1|h1
  ·exact hn b hb h1
  ·exact hd b hb h1)⟩
theorem FtA.ofDAs {base:Nat} {w:World} {v:Value} {l:List AtomD} (h:DAs base w v l):∃bs,FtA w v l bs∧∀b∈bs,base≤b∧b<w.heap.size:=by
 obtain⟨bs,h1,_,h3⟩:=h.done;exact⟨bs,⟨fun b hb=>(h3 b hb).2,fun w' ds ko hn=>(h1.onlyAt ko hn).rd⟩,h3⟩
def NearQ (base:Nat) (w:World) (hv bv:Value) (d:QueryD):Prop:=∃bs,OwI base w hv d.1∧FtA w bv d.2 bs∧(∀b∈bs,base≤b)∧∀b∈blk hv,b∉bs
theorem NearQ.rd {base:Nat} {w:World} {hv bv:Value} {d:QueryD} (h:NearQ base w hv bv d):RdQuery w (.agg #[hv,bv]) d:=by
 obtain⟨bs,h1,h2,_⟩:=h;obtain⟨a,n,c,e,h3⟩:=h2.rd;obtain⟨a',n',c',e'⟩:=h1.ints.shape;subst e;subst e';exact⟨_,_,_,_,_,_,rfl,h1.ints,h3⟩
theorem NearQ.only {base:Nat} {w w':World} {hv bv:Value} {d:QueryD} {ds:List Nat} (h:NearQ base w hv bv d) (ko:OnlyAt ds w w') (hn:∀b∈ds,b<base):NearQ base w' hv bv d:=by
 obtain⟨bs,h1,h2,h3,h4⟩:=h;exact⟨bs,h1.only ko (fun b hb hm=>by have:=(h1.lo b hb).1;have:=hn b hm;omega),h2.only ko (fun b hb hm=>by have:=h3 b hb;have:=hn b hm;omega),h3,h4⟩
theorem NearQ.below {base:Nat} {w w':World} {hv bv:Value} {d:QueryD} (h:NearQ base w hv bv d) (hb:Below w.heap.size w w'):NearQ base w' hv bv d:=h.only (OnlyAt.ofBelow [] hb) (fun b hm=>by simp at hm)
theorem NearQ.mono {base base':Nat} {w:World} {hv bv:Value} {d:QueryD} (h:NearQ base w hv bv d) (hB:base'≤base):NearQ base' w hv bv d:=by
 obtain⟨bs,h1,h2,h3,h4⟩:=h;exact⟨bs,h1.mono hB,h2,fun b hb=>Nat.le_trans hB (h3 b hb),h4⟩
theorem NearQ.ofCop {base T:Nat} {w:World} {hv bv:Value} {d:QueryD} (h1:OwI base w hv d.1) (h2:∀b∈blk hv,b<T) (h3:DAs T w bv d.2) (hT:base≤T):NearQ base w hv bv d:=by
 obtain⟨bs,h4,h5⟩:=FtA.ofDAs h3;exact⟨bs,h1,h4,fun b hb=>Nat.le_trans hT (h5 b hb).1,fun b hb hm=>by have:=h2 b hb;have:=(h5 b hm).1;omega⟩
theorem NearQ.ofDrew {base T:Nat} {w:World} {hv bv:Value} {d:QueryD} (h1:OwI T w hv d.1) (h2:DAt base T w bv d.2) (hT:base≤T):NearQ base w hv bv d:=by
 obtain⟨W,bss,hW,ho,hlt⟩:=h2
 obtain⟨bs,b1,b2,b3⟩:∃bs,ROAtomS w bv d.2 bs∧(∀b∈bs,base≤b∧b<w.heap.size)∧∀b∈bs,b<T:=by
  obtain⟨hA,h6,h7⟩:=ho;obtain⟨bs,hro,hbs⟩:=BuiltA.ro hA;obtain⟨cs,hc,_⟩:=hA;refine⟨bs,hro,fun b hb=>?_,fun b hb=>hlt b (hbs b hb)⟩;rcases hbs b hb with h|h
  ·rcases hc.form with⟨rfl,_⟩|⟨g,cap,rfl,_,_⟩
   ·simp[blk] at h
   ·simp[blk] at h;subst h;rw[←hW];exact hc.lt
  ·have:=h7 b h;rw[←hW];exact this
 exact⟨bs,h1.mono hT,⟨fun b hb=>(b2 b hb).2,fun w' ds ko hn=>(b1.onlyAt ko hn).rd⟩,fun b hb=>(b2 b hb).1,fun b hb hm=>by have:=(h1.lo b hb).1;have:=b3 b hm;omega⟩
theorem FtA.drop1 {w:World} {g off n cap:Nat} {l:List AtomD} {bs:List Nat} (h:FtA w (.slice (some ⟨g,off,none⟩) n cap) l bs) (hn:1<n):FtA w (.slice (some ⟨g,off+2,none⟩) (n-1) (cap-1)) (l.drop 1) bs:=by
 refine⟨h.1,fun w' ds ko hd=>?_⟩;obtain⟨a,n',c',e,a2,n2,c2,e2,hl,hnc,hm,hc⟩:=h.2 w' ds ko hd
 cases e;cases e2;obtain⟨b,o,e3,hlt,hc⟩:=hc (by omega)
 cases e3;refine⟨_,_,_,rfl,_,_,_,rfl,by simp;omega,by omega,by omega,fun _=>⟨g,off+2,rfl,hlt,fun j hj=>?_⟩⟩;have hj':j+1<l.length:=by simp at hj;omega
 obtain⟨cs,h1,h2,h3⟩:=hc (j+1) hj';refine⟨cs,h1,fun i hi=>?_,?_⟩
 ·have:=h2 i hi;rw[show off+2+(j*2+i)=off+((j+1)*2+i) by omega];exact this
 ·have e4:(l.drop 1)[j]=l[j+1]:=by simp
  rw[e4];exact h3
def DrewN (n m:Nat) (w:World) (S:Value) (len cb:Nat) (e:Ending) (w':World):Prop:=
 ∃hv bv d,e=.returned (.agg #[hv,bv])∧NearQ w.heap.size w' hv bv d∧QBd n m d∧DSt w w' S len cb∧1≤d.2.length
theorem step_rot {P:Program} {ops:Array Oper} {o:Oper} {a:Act} {w W:World} {K:Act→World→Prop} {Q:Exit→Act→World→Prop} {F:Prop}
  (hgd:o.guard=none) (s x:Operand) (t:TypeId) (hop:o.op=Op.call { callee:=Callee.builtin Builtin.append,args:=#[s,x],argTypes:=#[t,t] })
  (E:TypeId) (z:Value) (bytes:Nat) (ht:P.underlying t=some (.slice E)) (hinfo:(P.info? E).map (fun i=>(i.zero,i.size,i.bytes))=some (some z,2,bytes)) (h8:bytes≤128) (hzs:z.cells.size=2)
  (g n cap:Nat) (cs:List Value) (hown:BuiltC E 2 W w (.slice (some ⟨g,0,none⟩) n cap) n cs) (hn1:1<n) (hn:n≤1099511627776)
  (hs:a.eval s=.slice (some ⟨g,2,none⟩) (n-1) (cap-1)) (y:Nat) (c0 c1:Value) (hx:a.eval x=.slice (some ⟨y,0,none⟩) 1 1) (hblk:w.heap[y]?=some (.cells #[c0,c1] E (0,0)))
  (h1:c0.oneCell'=true) (h2:c1.oneCell'=true)
  (hK:∀g' off' cap' w',n≤cap'→cap'≤maxLen→g'<w'.heap.size→(g'=g∨w.heap.size≤g')→OnlyAt [g] w w'→(∀j,j<n*2→w'.cell? ⟨g',off'+j,none⟩=(cs.drop 2++[c0,c1])[j]?)→K (a.put o.dst (.slice (some ⟨g',off',none⟩) n cap')) w') :
  if Region.wanted o (yielded ops a.tmps)=true then Oper.wp P o a w K Q else F:=by
 obtain⟨i,hi,hz0,hz1,hz2⟩:=info_parts hinfo;have hlen:cs.length=n*2:=hown.len;have hg:W.heap.size≤g∧g<w.heap.size:=hown.lt;have hcell:=fun j hj=>hown.cell j hj
 have hfrz:=fun j=>hown.frozen j
 obtain⟨hnc,hcm⟩:n≤cap∧cap≤maxLen:=by
  rcases hown.form with⟨e,_⟩|⟨g2,c2,e,e1,e2⟩
  ·cases e
  ·cases e;exact⟨e1,e2⟩
 have hnews:∀j u,[c0,c1][j]?=some u→w.cell? ((⟨y,0,none⟩:Addr).add j)=some u:=by
  intro j u hu;rw[Addr.add_lit,Nat.zero_add,cell_of_row w y j _ E (0,0) hblk];simpa using hu
 have hone:∀u∈[c0,c1],u.oneCell'=true:=by
  intro u hu;simp at hu;rcases hu with rfl|rfl
  ·exact h1
  ·exact h2
 have e1:n-1+1=n:=by omega
 by_cases hroom:n<cap
 ·obtain⟨cur,hcur,hcs⟩:∃cur,w.heap[g]?=some (.cells cur E (0,0))∧cur.size=cap*2:=by
   rcases hown.1.2 with⟨e,_⟩|⟨g2,c2,cur,e,_,h3,_,_,h4,_⟩
   ·cases e
   ·cases e;exact⟨cur,h3,h4⟩
  have hs2:∀j,j<2→(w.cell? ⟨g,2+(n-1)*2+j,none⟩).isSome=true∧w.frozen? ⟨g,2+(n-1)*2+j,none⟩=false:=by
   intro j hj;refine⟨?_,hfrz _⟩;rw[cell_of_row w g _ _ E (0,0) hcur];rw[Array.getElem?_eq_getElem (by omega)];rfl
  refine step_append_room hgd s x t hop E i 2 ht hi hz1 g 2 (n-1) (cap-1) hs ⟨y,0,none⟩ 1 1 [c0,c1] hx rfl hnews hone (by omega) (fun j hj=>hs2 j (by simpa using hj)) ?_;rw[e1];refine hK g 2 (cap-1) _ (by omega) (by omega) ?_ (.inl rfl) ?_ ?_
  ·simp[World.setCells,World.setCell];exact hg.2
  ·exact (OnlyAt.setCell w _ _ _).same (OnlyAt.setCell _ _ _ _)
  ·intro j hj;have e2:2+(n-1)*2=n*2:=by omega
   rw[e2];by_cases hjn:2+j<n*2
   ·rw[World.cell?_setCells_out g [c0,c1] (n*2) w ⟨g,2+j,none⟩ (fun _ _=>.inl hjn),hcell (2+j) hjn,List.getElem?_append_left (by simp;omega),List.getElem?_drop]
   ·have hin:=World.cell?_setCells_in g [c0,c1] (n*2) w (fun k hk=>by have:=(hs2 k (by simpa using hk)).1;rwa [e2] at this) (2+j-n*2) (by simp;omega);rw[show n*2+(2+j-n*2)=2+j by omega] at hin
    rw[hin,List.getElem?_append_right (by simp;omega)];simp only[List.length_drop,hlen];rw[show j-(n*2-2)=2+j-n*2 by omega,List.getElem?_eq_getElem (by simp;omega)]
 ·have hcn:cap=n:=by omega
  subst hcn
  refine step_append_grows hgd s x t hop E i z 2 bytes ht hi hz0 hz1 hz2 hzs (by omega) (some ⟨g,2,none⟩) (cap-1) (cap-1) (cs.drop 2) hs (fun h=>by cases h) (by simp[hlen];omega) (fun b hb j u hu=>?_) ⟨y,0,none⟩ 1 1 [c0,c1] hx rfl hnews hone (by omega) (by unfold maxLen;omega) (by
   have:(cap-1+1)*bytes≤1099511627776*128:=Nat.mul_le_mul (by omega) h8;omega) ?_
  ·cases hb;rw[List.getElem?_drop] at hu;have hj:2+j<cap*2:=by have:=(List.getElem?_eq_some_iff.1 hu).1;omega
   rw[Addr.add_lit,hcell (2+j) hj];exact hu
  ·intro v' w' hrow hgr;rw[e1] at hrow;rcases hrow.2 with⟨_,h0⟩|⟨g',c',cur,rfl,hlo,hc2,h3,h4,_⟩
   ·omega
   ·have hsz:=hgr.size
    have hlt:g'<w'.heap.size:=by
     rcases Nat.lt_or_ge g' w'.heap.size with h5|h5
     ·exact h5
     ·rw[Array.getElem?_eq_none h5] at hc2;cases hc2
    refine hK g' 0 c' w' h3 h4 hlt (.inr hlo) (onlyAt_grown [g] hgr (fun k hk=>by cases hk)) (fun j hj=>?_);rw[Nat.zero_add];exact World.ownsRow.cellAt hrow j hj
theorem DAs.elem0 {base:Nat} {w:World} {a:Option Addr} {n c:Nat} {l:List AtomD} (h:DAs base w (.slice a n c) l) (hl:0<l.length) :
  ∃g r li ra rn rc bs,a=some ⟨g,0,none⟩∧n=l.length∧l[0]?=some (r,li)∧w.cell? ⟨g,0,none⟩=some (.int .i64 r)∧w.cell? ⟨g,1,none⟩=some (.slice ra rn rc)∧inI r∧OInts w (.slice ra rn rc) li bs∧bs.Nodup∧(∀b∈bs,base≤b∧b<w.heap.size)∧li.length=rn:=by
 obtain⟨W,bss,hW,⟨cs,hc,he⟩,hnd,h7⟩:=h
 obtain⟨g,cap,e,_,_⟩:∃g cap,Value.slice a n c=.slice (some ⟨g,0,none⟩) l.length cap∧l.length≤cap∧cap≤maxLen:=by
  rcases hc.form with⟨_,h0⟩|h1
  ·omega
  ·exact h1
 cases e;obtain⟨ra,rn,rc,e0,e1,hi,ho⟩:=he.2 0 l[0] (List.getElem?_eq_getElem hl);have hk0:=hc.cell 0 (by omega);have hk1:=hc.cell 1 (by omega)
 obtain⟨bss0,bt,rfl⟩:∃b t,bss=b::t:=by
  cases bss with
  |nil=>have:=he.1;simp at this;omega
  |cons b t=>exact⟨b,t,rfl⟩
 have hnb:bss0.Nodup:=by
  have h1:=(List.nodup_append.1 hnd).2.1;rw[List.flatten_cons] at h1;exact (List.nodup_append.1 h1).1
 obtain⟨_,_,e4⟩:=ho.1.form
 cases e4
 exact⟨g,l[0].1,l[0].2,ra,_,rc,bss0,rfl,rfl,List.getElem?_eq_getElem hl,by rw[hk0];exact e0,by rw[hk1];exact e1,hi,ho,hnb,fun b hb=>by
  have:=h7 b (by rw[List.flatten_cons];exact List.mem_append_left _ hb);rw[←hW];exact this,rfl⟩
theorem OutInv.appO {base:Nat} {W w w3:World} {v v':Value} {l:List AtomD} {cs:List Value} {bss:List (List Nat)} {r:Int} {a:Option Addr} {n c:Nat} {li:List Int} {bs:List Nat}
  (h:OutInv 83 W w v l bss) (h1:BuiltC 83 2 W w v l.length cs) (h2:Els w cs l bss) (ho1:OInts w (.slice a n c) li bs) (ho2:bs.Nodup) (ho3:∀b∈bs,base≤b∧b<w.heap.size) (hv:∀b∈blk v,b<base) (hl:∀b∈bss.flatten,b<base) (hr:inI r)
  (h':BuiltC 83 2 W w3 v' (l.length+1) (cs++[.int .i64 r,.slice a n c])) (ko:OnlyAt (blk v) w w3) (hv':∀b∈blk v',b∈blk v∨w.heap.size≤b) (hB:W.heap.size≤base):∃bs,OutInv 83 W w3 v' (l++[(r,li)]) (bss++[bs])∧∀b∈bs,base≤b:=by
 obtain⟨_,h6,h7⟩:=h;have hs3:=ko.size;rw[List.nodup_append] at h6;obtain⟨n1,n2,n3⟩:=h6;have hbx:∀b∈bs,b∉blk v:=fun b hb hx=>by have:=hv b hx;have:=ho3 b hb;omega
 have hn:∀b∈bss.flatten,b∉blk v:=fun b hb hx=>n3 b hx b hb rfl
 have e:(bss++[bs]).flatten=bss.flatten++bs:=by simp
 refine⟨bs,⟨BuiltA.app h1 h2 h' ko hn hr ho1 hbx,?_,?_⟩,fun b hb=>(ho3 b hb).1⟩
 ·rw[e,List.nodup_append,List.nodup_append];refine⟨?_,⟨n2,ho2,fun x hx y hy e=>?_⟩,fun x hx y hy e=>?_⟩
  ·rcases h'.form with⟨rfl,_⟩|⟨g,cap,rfl,_,_⟩<;>simp[blk]
  ·have:=hl x hx;have:=ho3 y hy;omega
  ·subst e;rcases hv' x hx with hx|hx
   ·rcases List.mem_append.1 hy with hy|hy
    ·exact n3 x hx x hy rfl
    ·exact hbx x hy hx
   ·rcases List.mem_append.1 hy with hy|hy
    ·have:=(h7 x hy).2;omega
    ·have:=(ho3 x hy).2;omega
 ·intro b hb;rw[e] at hb;rcases List.mem_append.1 hb with hb|hb
  ·have:=h7 b hb;omega
  ·have:=ho3 b hb;omega
theorem FtA.rot {base:Nat} {w w':World} {g cap:Nat} {l:List AtomD} {cs:List Value} {bss:List (List Nat)} {W:World} (hW:W.heap.size=base) (ho:OutInv 83 W w (.slice (some ⟨g,0,none⟩) l.length cap) l bss) (hc:BuiltC 83 2 W w (.slice (some ⟨g,0,none⟩) l.length cap) l.length cs) (he:Els w cs l bss)
  (hl:1<l.length) {g' off' cap':Nat} {c0 c1:Value} (h0:cs[0]?=some c0) (h1:cs[1]?=some c1) (hcap:l.length≤cap') (hm:cap'≤maxLen) (hlt:g'<w'.heap.size) (hg:g'=g∨w.heap.size≤g') (ko:OnlyAt [g] w w')
  (hcell:∀j,j<l.length*2→w'.cell? ⟨g',off'+j,none⟩=(cs.drop 2++[c0,c1])[j]?):∃bs,FtA w' (.slice (some ⟨g',off',none⟩) l.length cap') (l.drop 1++l.take 1) bs∧∀b∈bs,base≤b∧(b∈bss.flatten∨b=g'):=by
 obtain⟨_,hnd,h7⟩:=ho;have hgl:=hc.lt;have hclen:=hc.len;refine⟨g'::bss.flatten,⟨fun b hb=>?_,fun w2 ds k hds=>?_⟩,fun b hb=>?_⟩
 ·rcases List.mem_cons.1 hb with rfl|hb
  ·exact hlt
  ·exact Nat.lt_of_lt_of_le (h7 b hb).2 ko.size
 ·have hlen:(l.drop 1++l.take 1).length=l.length:=by simp;omega
  refine⟨_,_,_,rfl,_,_,_,rfl,hlen,hcap,hm,fun _=>⟨g',off',rfl,Nat.lt_of_lt_of_le hlt k.size,fun j hj=>?_⟩⟩;rw[hlen] at hj;have hg'd:g'∉ds:=hds g' (by simp)
  obtain⟨m,hml,hmj,hcm⟩:∃m,m<l.length∧(l.drop 1++l.take 1)[j]?=l[m]?∧∀i,i<2→(cs.drop 2++[c0,c1])[j*2+i]?=cs[m*2+i]?:=by
   by_cases hjl:j+1<l.length
   ·refine⟨j+1,hjl,?_,fun i hi=>?_⟩
    ·rw[List.getElem?_append_left (by simp;omega),List.getElem?_drop,Nat.add_comm]
    ·rw[List.getElem?_append_left (by simp;omega),List.getElem?_drop,show 2+(j*2+i)=(j+1)*2+i by omega]
   ·refine⟨0,by omega,?_,fun i hi=>?_⟩
    ·rw[List.getElem?_append_right (by simp;omega)];simp only[List.length_drop];rw[show j-(l.length-1)=0 by omega,List.getElem?_take];simp
    ·rw[List.getElem?_append_right (by simp;omega)];simp only[List.length_drop];rw[show j*2+i-(cs.length-2)=i by omega,Nat.zero_mul,Nat.zero_add]
     match i,hi with
     |0,_=>simpa using h0.symm
     |1,_=>simpa using h1.symm
  obtain⟨ra,rn,rc,e0,e1,hi,ho⟩:=he.2 m l[m] (List.getElem?_eq_getElem hml)
  have hlj:(l.drop 1++l.take 1)[j]'(by rw[hlen];exact hj)=l[m]:=by
   have h5:=hmj;rw[List.getElem?_eq_getElem (by rw[hlen];exact hj),List.getElem?_eq_getElem hml] at h5;exact Option.some.inj h5
  rw[hlj];refine⟨[.int .i64 l[m].1,.slice ra rn rc],rfl,fun i hi2=>?_,ra,rn,rc,rfl,hi,?_⟩
  ·rw[k.cell hg'd (v:=((cs.drop 2++[c0,c1])[j*2+i]?).getD undef) (by
    rw[hcell (j*2+i) (by omega),hcm i hi2]
    match i,hi2 with
    |0,_=>simp only[Nat.add_zero];rw[e0];rfl
    |1,_=>rw[e1];rfl),hcm i hi2]
   match i,hi2 with
   |0,_=>simp only[Nat.add_zero];rw[e0];rfl
   |1,_=>rw[e1];rfl
  ·have hbsub:∀b∈bss.getD m [],b∈bss.flatten:=fun b hb=>getD_mem_flatten hb
   have hgn:∀b∈bss.getD m [],b∉[g]:=fun b hb hm2=>by
    simp at hm2;subst hm2;exact (List.nodup_append.1 hnd).2.2 b (by simp[blk]) b (hbsub b hb) rfl
   exact ((ho.onlyAt ko hgn).onlyAt k (fun b hb=>hds b (List.mem_cons_of_mem _ (hbsub b hb)))).1
 ·rcases List.mem_cons.1 hb with rfl|hb
  ·rcases hg with h|h
   ·exact⟨by rw[h,←hW];exact hgl.1,.inr rfl⟩
   ·exact⟨by have:=hgl.1;omega,.inr rfl⟩
  ·exact⟨by rw[←hW];exact (h7 b hb).1,.inl hb⟩
theorem QBd.renN {n m:Nat} {d:QueryD} {tl:List Int} (h:QBd n m d):QBd n m (renQ d tl):=by
 refine⟨by unfold renQ;simpa using h.1,by unfold renQ;simpa using h.2.1,fun a ha=>?_⟩;unfold renQ at ha;obtain⟨x,hx,rfl⟩:=List.mem_map.1 ha;have:=h.2.2 x hx;unfold renA;simpa using this
theorem Lit2.ints (w:World) (a b:Int) (ha0:-3≤a) (ha1:a≤3) (hb0:-3≤b) (hb1:b≤3):Ints (w.alloc (.cells #[.int .i64 a,.int .i64 b] 3)) (.slice (some ⟨w.heap.size,0,none⟩) 2 2) [a,b]:=by
 have:=(OwI.lit w.heap.size w [a,b] (Nat.le_refl _) (by simp[maxLen]) (fun x hx=>by simp at hx;unfold inI;omega)).ints;simpa using this
theorem newFrzN (w:World) (cs:Array Value) (T:TypeId) (i:Nat):(w.alloc (.cells cs T)).frozen? ⟨w.heap.size,i,none⟩=false:=by simp
theorem frz3N (w:World) (o1 o2:Obj) (cs:Array Value) (T:TypeId) (i:Nat):(((w.alloc o1).alloc o2).alloc (.cells cs T)).frozen? ⟨w.heap.size+1+1,i,none⟩=false:=by
 have e:((w.alloc o1).alloc o2).heap.size=w.heap.size+1+1:=by simp
 have h2:=newFrzN ((w.alloc o1).alloc o2) cs T i;rw[e] at h2;exact h2
theorem fine_lenN {s:List Int} {d:QueryD} {m:Int} (h:fineB s d m=true):1≤d.2.length:=by
 unfold fineB at h;simp only[Bool.and_eq_true] at h;have h2:=h.2.2.1;unfold inB at h2;have h3:=of_decide_eq_true h2;omega
theorem NearQ.base_le {base:Nat} {w:World} {hv bv:Value} {d:QueryD} (h:NearQ base w hv bv d):base≤w.heap.size:=by
 obtain⟨bs,h1,_⟩:=h;exact h1.2.1
theorem DAs.formN {base:Nat} {w:World} {a:Option Addr} {n c:Nat} {l:List AtomD} (h:DAs base w (.slice a n c) l) (hl:1<n):∃g,a=some ⟨g,0,none⟩∧base≤g:=by
 obtain⟨W,bss,hW,ho⟩:=h;have h2:=ho.blk_lo;obtain⟨⟨cs,hc,_⟩,_⟩:=ho;rcases hc.form with⟨e,_⟩|⟨g,cap,e,_,_⟩
 ·cases e;omega
 ·cases e;exact⟨g,rfl,by rw[←hW];exact hc.lt.1⟩
theorem DAs.capN {base:Nat} {w:World} {a:Option Addr} {n c:Nat} {l:List AtomD} (h:DAs base w (.slice a n c) l):n=l.length∧n≤c∧c≤maxLen:=by
 obtain⟨W,bss,hW,ho⟩:=h;obtain⟨⟨cs,hc,_⟩,_⟩:=ho;rcases hc.form with⟨e,e2⟩|⟨g,cap,e,h1,h2⟩
 ·cases e;exact⟨e2.symm,Nat.le_refl _,by unfold maxLen;omega⟩
 ·cases e;exact⟨rfl,h1,h2⟩
set_option maxRecDepth 100000 in
set_option maxHeartbeats 16000000 in
theorem l4Near_any (w:World) (S:Value) (len cb:Nat) (base:Nat) (sv:Value) (s:List Int) (qh qb:Value) (d:QueryD) (h:St w S len cb) (hv:OwI base w sv s) (hcb:cb<base) (hs:SBd s) (hq:NearQ base w qh qb d) (hd:QBd 2 4 d) (hde:1≤d.2.length) :
  Calls Tryz.prog 125 #[.pointer (some ⟨cb,0,none⟩),.agg #[sv],.agg #[qh,qb]] w (DrewN 2 4 w S len cb):=by
 have hsz:∀d':QueryD,QBd 2 4 d'→d'.1.length≤1048576∧sizeAtomS d'.2≤1048576:=fun d' h=>⟨by have:=h.1;omega,by have:=h.size;omega⟩
 have HCP:=Lib.hid (fun W (hr:RdQuery W (.agg #[qh,qb]) d)=>sCopyO_any W _ d hr (hsz d hd).1 (hsz d hd).2);have HIQ:=Lib.hid (fun W x d' (hs':OwI base W sv s) (hx:RdQuery W x d') (hd':QBd 2 4 d')=>sIsQuery_any W (.agg #[sv]) x s d' (by obtain⟨a,n,c,rfl⟩:=hs'.ints.shape;exact⟨a,n,c,rfl,hs'.ints⟩) hx (hsz d' hd').2);have hbl:=Lib.hid (fun n w h h0 h1=>l1Below_any n w S len cb h h0 h1);have HAT:=Lib.hid (fun W h (hv:OwI base W sv s)=>l3Atom_any W S len cb base sv s h hv hcb hs);have HTM:=Lib.hid (fun w h=>l2Term_any w S len cb h);have HLQ:=Lib.hid (fun W h (hv:OwI base W sv s)=>l4Query_any W S len cb base sv s h hv hcb hs);have HRN:=Lib.hid (fun W x vt d' tl (hx:RdQuery W x d') (ht:Ints W vt tl) (hd':QBd 2 4 d')=>sRenameOw_any W x vt d' tl hx ht (hsz d' hd').1 (hsz d' hd').2);have HQ0:=Lib.hid hq;have HV0:=Lib.hid hv;have HS:=Lib.hid h;have HQB:=Lib.hid hd;have HSB:=Lib.hid hs;have HDL1:Hid (d.2≠[]):=fun e=>by rw[e] at hde;simp at hde
 obtain⟨sa,sc,rfl⟩:=hv.shape;obtain⟨ha,hn,hc,ba,bn,bc0,e0,_,_⟩:=hq.rd
 cases e0;have hbw:base≤w.heap.size:=hv.2.1;have hb0:∀a b c,Below w.heap.size w (((w.alloc a).alloc b).alloc c):=fun a b c=>(((Below.refl _ _).alloc (Nat.le_refl _) _).alloc (by simp) _).alloc (by simp<;>omega) _
 have HB0:=Lib.hid hb0;generalize s.length=sn at *;clear h hv hs hq hd hb0 hsz hde;go_enter Tryz.func125,Tryz.ntmps125
 go_wp2_with fail
 obtain⟨W,hW⟩:∃W,W=((w.alloc (.cells #[.slice sa sn sc] 26)).alloc (.cells #[.slice ha hn hc,.slice ba bn bc0] 29)).alloc (.cells #[.slice none 0 0,.slice none 0 0] 29):=⟨_,rfl⟩
 have HBW:Hid (Below w.heap.size w W):=by rw[hW];exact HB0.out _ _ _
 have s0:W.cell? ⟨w.heap.size,0,none⟩=some (.slice sa sn sc):=by rw[hW];exact box1 w _ _ _ _ 0 _ rfl
 have q0:W.cell? ⟨w.heap.size+1,0,none⟩=some (.slice ha hn hc):=by rw[hW];exact box2 w _ _ _ _ 0 _ rfl
 have q1:W.cell? ⟨w.heap.size+1,1,none⟩=some (.slice ba bn bc0):=by rw[hW];exact box2 w _ _ _ _ 1 _ rfl
 have k0:W.cell? ⟨w.heap.size+1+1,0,none⟩=some (.slice none 0 0):=by rw[hW];exact box3 w _ _ _ _ 0 _ rfl
 have k1:W.cell? ⟨w.heap.size+1+1,1,none⟩=some (.slice none 0 0):=by rw[hW];exact box3 w _ _ _ _ 1 _ rfl
 have f0:W.frozen? ⟨w.heap.size+1+1,0,none⟩=false:=by rw[hW];exact frz3N _ _ _ _ _ 0
 have f1:W.frozen? ⟨w.heap.size+1+1,1,none⟩=false:=by rw[hW];exact frz3N _ _ _ _ _ 1
 have HWS:Hid (W.heap.size=w.heap.size+3):=by rw[hW];exact Lib.hid (by simp)
 have HWL:Hid (w.heap.size+3≤W.heap.size):=by rw[HWS.out];exact Lib.hid (Nat.le_refl _)
 rw[←hW];clear hW;refine (HCP.out _ (HQ0.out.below HBW.out).rd).mono ?_;rintro e w1 ⟨xh,xb,TT,rfl,ho,hlt,hda,hT0,hT1,hb⟩;have hal:=bnext hb (below_alloc w1 (.cells #[xh,xb] 29));obtain⟨xa,xc,rfl⟩:=ho.shape;obtain⟨va,vc,rfl⟩:=hda.shape;have x0:(w1.alloc (.cells #[.slice xa d.1.length xc,.slice va d.2.length vc] 29)).cell? ⟨w1.heap.size,0,none⟩=some (.slice xa d.1.length xc):=newBox w1 #[.slice xa d.1.length xc,.slice va d.2.length vc] 29 0 _ rfl;have x1:(w1.alloc (.cells #[.slice xa d.1.length xc,.slice va d.2.length vc] 29)).cell? ⟨w1.heap.size,1,none⟩=some (.slice va d.2.length vc):=newBox w1 #[.slice xa d.1.length xc,.slice va d.2.length vc] 29 1 _ rfl;have y0:=newFrzN w1 #[.slice xa d.1.length xc,.slice va d.2.length vc] 29 0;have y1:=newFrzN w1 #[.slice xa d.1.length xc,.slice va d.2.length vc] 29 1;replace f0:=frok hal k0 f0;replace f1:=frok hal k1 f1;replace k0:=cellk hal k0;replace k1:=cellk hal k1;replace s0:=cellk hal s0;replace q0:=cellk hal q0;replace q1:=cellk hal q1;have HD1:=Lib.hid ((DSt.start HS.out).below (bnext HBW.out hal));have HQ1:=Lib.hid (HQ0.out.below (bnext HBW.out hal));have HV1:=Lib.hid (HV0.out.below (bnext HBW.out hal));have HO1:=Lib.hid (ho.below (below_alloc w1 (.cells #[.slice xa d.1.length xc,.slice va d.2.length vc] 29)));have HDA1:=Lib.hid (hda.below (below_alloc w1 (.cells #[.slice xa d.1.length xc,.slice va d.2.length vc] 29)));have HDT1:=Lib.hid (hda.top.only (Nat.le_refl _) (OnlyAt.ofBelow [] (below_alloc w1 (.cells #[.slice xa d.1.length xc,.slice va d.2.length vc] 29))) (fun b hm=>by simp at hm));obtain⟨bs,hft,hbs⟩:=FtA.ofDAs hda;have HFT1:=Lib.hid (hft.only (OnlyAt.ofBelow [] (below_alloc w1 (.cells #[.slice xa d.1.length xc,.slice va d.2.length vc] 29))) (fun _ _ hm=>by simp at hm));have HBS:=Lib.hid hbs;have HLT:=Lib.hid hlt;have HT0:=Lib.hid hT0;have HT1:=Lib.hid hT1;have hcbw1:W.heap.size≤w1.heap.size:=hb.size;clear hb ho hda hal hlt hft hbs;go_wp2_with fail
 obtain⟨w2,hw2⟩:∃x,x=w1.alloc (.cells #[.slice xa d.1.length xc,.slice va d.2.length vc] 29):=⟨_,rfl⟩
 rw[←hw2] at x0 x1 y0 y1 f0 f1 k0 k1 s0 q0 q1 HD1 HQ1 HV1 HO1 HDA1 HFT1 HDT1 ⊢;have HX2:Hid (w1.heap.size<w2.heap.size):=by rw[hw2];exact Lib.hid (by simp)
 clear hw2;refine (hbl.out 7 _ HD1.out.st (by omega) (by omega)).mono ?_;rintro e w3 ⟨k,hk0,hk1,rfl,hcur,hg⟩;have hko:=grownBy_only hg;have hXl:W.heap.size≤w1.heap.size:=hcbw1;have hws:=HWS.out;have hnX:w1.heap.size∉[cb]:=by simp;omega
 have hn0:w.heap.size∉[cb]:=by simp;omega
 have hn1:w.heap.size+1∉[cb]:=by simp;omega
 have hn2:w.heap.size+1+1∉[cb]:=by simp;omega
 have hx2:=HX2.out;replace y0:=hko.frozen (by omega) hnX y0;replace y1:=hko.frozen (by omega) hnX y1;replace x0:=hko.cell hnX x0;replace x1:=hko.cell hnX x1;replace f0:=hko.frozen (by omega) hn2 f0;replace f1:=hko.frozen (by omega) hn2 f1;replace k0:=hko.cell hn2 k0;replace k1:=hko.cell hn2 k1;replace s0:=hko.cell hn0 s0;replace q0:=hko.cell hn1 q0;replace q1:=hko.cell hn1 q1;have HDZ:=Lib.hid (HD1.out.draw hcur hg);have hlow:∀b∈[cb],b<base:=fun b hb=>by simp at hb;omega
 have HQZ:=Lib.hid (HQ1.out.only hko hlow);have HVZ:=Lib.hid (HV1.out.only hko (fun b hb hm=>by have:=(HV1.out.lo b hb).1;have:=hlow b hm;omega));have HO3:=Lib.hid (HO1.out.only hko (fun b hb hm=>by have:=(HO1.out.lo b hb).1;have:=hlow b hm;omega));have hT0':=HT0.out;have HDA:=Lib.hid (HDA1.out.only (Nat.le_refl _) hko (fun b hb=>by have:=hlow b hb;omega));have HNZ:=Lib.hid (NearQ.ofCop HO3.out HLT.out HDA.out HT0.out);have hx3:w1.heap.size<w3.heap.size:=by have:=hko.size;omega
 obtain⟨_,hcap,hcm⟩:=HDA.out.capN;have HCAP:=Lib.hid hcap;have HDT:=Lib.hid (HDT1.out.only (Nat.le_refl _) hko (fun b hb=>.inl (by have:=hlow b hb;omega)));have HFT:=Lib.hid (HFT1.out.only hko (fun b hb hm=>by have:=(HBS.out b hb).1;have:=hlow b hm;omega));unfold maxLen at hcm;clear hko hcur hg HD1 HQ1 HV1 HO1 hnX hn0 hn1 hn2 hcap;have hk7:k=0∨k=1∨k=2∨k=3∨k=4∨k=5∨k=6:=by omega
 have HQBZ:=HQB;rcases hk7 with rfl|rfl|rfl|rfl|rfl|rfl|rfl
 ·by_cases hlen:1<d.2.length
  ·obtain⟨g,rfl,hgT⟩:=DAs.formN HDA.out hlen;have hcap:=HCAP.out;have hl1:(1:Int)≤d.2.length:=by omega
   have hvc:¬vc=1:=by omega
   have HDL:Hid (1<d.2.length):=hlen;generalize hdl:d.2.length=dl at *;clear hdl;go_wp2_with fail
   obtain⟨w4,hw4⟩:∃x,x=w3.setCell ⟨w1.heap.size,1,none⟩ (.slice (some ⟨g,2,none⟩) (dl-1) (vc-1)):=⟨_,rfl⟩
   have hko:OnlyAt [w1.heap.size] w3 w4:=by rw[hw4];exact OnlyAt.setCell _ _ _ _
   have e0:w4.cell? ⟨w1.heap.size,0,none⟩=some (.slice xa d.1.length xc):=by rw[hw4,World.cell?_setCell_other _ _ _ _ (by intro e;cases e)];exact x0
   have e1:w4.cell? ⟨w1.heap.size,1,none⟩=some (.slice (some ⟨g,2,none⟩) (dl-1) (vc-1)):=by rw[hw4];exact World.cell?_setCell_same _ _ _ x1
   rw[←hw4];clear hw4;replace x0:=e0;replace x1:=e1;clear e0 e1;replace s0:=hko.cell (by simp<;>omega) s0;replace q0:=hko.cell (by simp<;>omega) q0;replace q1:=hko.cell (by simp<;>omega) q1;replace f0:=hko.frozen (by omega) (by simp<;>omega) f0;replace f1:=hko.frozen (by omega) (by simp<;>omega) f1;replace k0:=hko.cell (by simp<;>omega) k0;replace k1:=hko.cell (by simp<;>omega) k1;replace HDZ:=Lib.hid (HDZ.out.only hko (fun b hb=>by simp at hb;omega));replace HQZ:=Lib.hid (HQ0.out.only HDZ.out.2.1 hlow);replace HVZ:=Lib.hid (HV0.out.only HDZ.out.2.1 (fun b hb hm=>by have:=(HV0.out.lo b hb).1;have:=hlow b hm;omega));have HNZ:=Lib.hid (show NearQ W.heap.size w4 (.slice xa d.1.length xc) (.slice (some ⟨g,2,none⟩) (dl-1) (vc-1)) (d.1,d.2.drop 1) from ⟨bs,HO3.out.only hko (fun b hb hm=>by have:=HLT.out b hb;have:=HT1.out;simp at hm;omega),(by have:=(HFT.out.drop1 HDL.out).only hko (fun b hb hm=>by have:=(HBS.out b hb).2;simp at hm;omega);simpa using this),fun b hb=>Nat.le_trans HT0.out (HBS.out b hb).1,fun b hb hm=>by have:=HLT.out b hb;have:=(HBS.out b hm).1;omega⟩);have HQBZ:Hid (QBd 2 4 (d.1,d.2.drop 1)):=⟨HQB.out.1,by have:=HQB.out.2.1;simp;omega,fun a ha=>HQB.out.2.2 a (List.mem_of_mem_drop ha)⟩;clear hko;have hic:=HIQ.out w4 _ (d.1,d.2.drop 1) HVZ.out HNZ.out.rd HQBZ.out;obtain⟨pf,hpf⟩:∃p,fineB s (d.1,d.2.drop 1) 4=p:=⟨_,rfl⟩
   rw[hpf] at hic;have HIC:=Lib.hid hic;have HLD:Hid (pf=true→1≤((d.1,d.2.drop 1)).2.length):=fun e=>fine_lenN (hpf.trans e)
   clear hic hpf;go_wp2_with fail
   refine HIC.out.mono ?_;rintro e wy ⟨rfl,hby⟩;have HNY:=Lib.hid (HNZ.out.below hby);have HDY:=Lib.hid (HDZ.out.below hby);have HQY:=Lib.hid (HQZ.out.below hby);replace f0:=frok hby k0 f0;replace f1:=frok hby k1 f1;replace k0:=cellk hby k0;replace k1:=cellk hby k1;replace x0:=cellk hby x0;replace x1:=cellk hby x1;replace q0:=cellk hby q0;replace q1:=cellk hby q1;clear hby s0
   cases pf with
   |true=>
    go_wp2_with fail
    have hk:OnlyAt [w.heap.size+1+1] wy ((wy.setCell ⟨w.heap.size+1+1,0,none⟩ (.slice xa d.1.length xc)).setCell ⟨w.heap.size+1+1,1,none⟩ (.slice (some ⟨g,2,none⟩) (dl-1) (vc-1))):=(OnlyAt.setCell wy _ _ _).same (OnlyAt.setCell _ _ _ _);exact bodyPost_ret (v:=.agg #[.slice xa d.1.length xc,.slice (some ⟨g,2,none⟩) (dl-1) (vc-1)]) (by simp[results,Tryz.results125,go_sem,k0,k1]) rfl ⟨_,_,(d.1,d.2.drop 1),rfl,(HNY.out.only hk (fun b hb=>by simp at hb;omega)).mono (by omega),HQBZ.out,HDY.out.only hk (fun b hb=>by simp at hb;omega),HLD.out (by trivial)⟩
   |false=>
    go_wp2_with fail
    refine (HCP.out wy HQY.out.rd).mono ?_;rintro e wc ⟨h3,b3,T3,rfl,ho3,hlt3,hda3,hT30,hT31,hb3⟩;replace f0:=frok hb3 k0 f0;replace f1:=frok hb3 k1 f1;replace k0:=cellk hb3 k0;replace k1:=cellk hb3 k1;have hyW:=HDY.out.size;have hWy:=HWL.out;have HN3:=Lib.hid (NearQ.ofCop ho3 hlt3 hda3 hT30);have HD3:=Lib.hid (HDY.out.below hb3);obtain⟨ra,rc,rfl⟩:=ho3.shape;obtain⟨ra',rc',rfl⟩:=hda3.shape;have hy3:w.heap.size+3≤wy.heap.size:=Nat.le_trans hWy (Nat.le_trans (NearQ.base_le HNY.out) (Nat.le_refl _));clear hb3 ho3 hlt3 hda3;go_wp2_with fail
    have hk:OnlyAt [w.heap.size+1+1] wc ((wc.setCell ⟨w.heap.size+1+1,0,none⟩ (.slice ra d.1.length rc)).setCell ⟨w.heap.size+1+1,1,none⟩ (.slice ra' d.2.length rc')):=(OnlyAt.setCell wc _ _ _).same (OnlyAt.setCell _ _ _ _);exact bodyPost_ret (v:=.agg #[.slice ra d.1.length rc,.slice ra' d.2.length rc']) (by simp[results,Tryz.results125,go_sem,k0,k1]) rfl ⟨_,_,d,rfl,(HN3.out.only hk (fun b hb=>by simp at hb;omega)).mono (by omega),HQB.out,HD3.out.only hk (fun b hb=>by simp at hb;omega),List.length_pos_iff.2 HDL1.out⟩
  ·go_wp2_with fail
   have hic:=HIQ.out w3 _ d HVZ.out HNZ.out.rd HQBZ.out;obtain⟨pf,hpf⟩:∃p,fineB s d 4=p:=⟨_,rfl⟩
   rw[hpf] at hic;have HIC:=Lib.hid hic;have HLD:Hid (pf=true→1≤(d).2.length):=fun e=>fine_lenN (hpf.trans e)
   clear hic hpf;go_wp2_with fail
   refine HIC.out.mono ?_;rintro e wy ⟨rfl,hby⟩;have HNY:=Lib.hid (HNZ.out.below hby);have HDY:=Lib.hid (HDZ.out.below hby);have HQY:=Lib.hid (HQZ.out.below hby);replace f0:=frok hby k0 f0;replace f1:=frok hby k1 f1;replace k0:=cellk hby k0;replace k1:=cellk hby k1;replace x0:=cellk hby x0;replace x1:=cellk hby x1;replace q0:=cellk hby q0;replace q1:=cellk hby q1;clear hby s0
   cases pf with
   |true=>
    go_wp2_with fail
    have hk:OnlyAt [w.heap.size+1+1] wy ((wy.setCell ⟨w.heap.size+1+1,0,none⟩ (.slice xa d.1.length xc)).setCell ⟨w.heap.size+1+1,1,none⟩ (.slice va d.2.length vc)):=(OnlyAt.setCell wy _ _ _).same (OnlyAt.setCell _ _ _ _);exact bodyPost_ret (v:=.agg #[.slice xa d.1.length xc,.slice va d.2.length vc]) (by simp[results,Tryz.results125,go_sem,k0,k1]) rfl ⟨_,_,d,rfl,(HNY.out.only hk (fun b hb=>by simp at hb;omega)).mono (by omega),HQBZ.out,HDY.out.only hk (fun b hb=>by simp at hb;omega),HLD.out (by trivial)⟩
   |false=>
    go_wp2_with fail
    refine (HCP.out wy HQY.out.rd).mono ?_;rintro e wc ⟨h3,b3,T3,rfl,ho3,hlt3,hda3,hT30,hT31,hb3⟩;replace f0:=frok hb3 k0 f0;replace f1:=frok hb3 k1 f1;replace k0:=cellk hb3 k0;replace k1:=cellk hb3 k1;have hyW:=HDY.out.size;have hWy:=HWL.out;have HN3:=Lib.hid (NearQ.ofCop ho3 hlt3 hda3 hT30);have HD3:=Lib.hid (HDY.out.below hb3);obtain⟨ra,rc,rfl⟩:=ho3.shape;obtain⟨ra',rc',rfl⟩:=hda3.shape;have hy3:w.heap.size+3≤wy.heap.size:=Nat.le_trans hWy (Nat.le_trans (NearQ.base_le HNY.out) (Nat.le_refl _));clear hb3 ho3 hlt3 hda3;go_wp2_with fail
    have hk:OnlyAt [w.heap.size+1+1] wc ((wc.setCell ⟨w.heap.size+1+1,0,none⟩ (.slice ra d.1.length rc)).setCell ⟨w.heap.size+1+1,1,none⟩ (.slice ra' d.2.length rc')):=(OnlyAt.setCell wc _ _ _).same (OnlyAt.setCell _ _ _ _);exact bodyPost_ret (v:=.agg #[.slice ra d.1.length rc,.slice ra' d.2.length rc']) (by simp[results,Tryz.results125,go_sem,k0,k1]) rfl ⟨_,_,d,rfl,(HN3.out.only hk (fun b hb=>by simp at hb;omega)).mono (by omega),HQB.out,HD3.out.only hk (fun b hb=>by simp at hb;omega),List.length_pos_iff.2 HDL1.out⟩
 ·by_cases hl4:d.2.length<4
  ·have hl4i:(d.2.length:Int)<4:=by omega
   have HDRW:=Lib.hid (Below.refl w3.heap.size w3).drew;have HDR3:=Lib.hid (HDZ.out.below HDRW.out);have HVR3:=Lib.hid (HVZ.out.below HDRW.out);have hcbT:cb<TT:=by omega
   go_wp2_with fail
   go_region_law (first
    |(refine step_app1D (by rfl) (.tmp 32) (.tmp 36) 27 (by rfl) 83 (.agg #[.int .i64 0,.slice none 0 0]) 2 32 Tryz.underlying27 info_Atom (by decide) (by decide) (by rfl) (.slice va d.2.length vc) d.2.length csN (by rfl) HC1.out w4.heap.size [.int .i64 r,.slice ya yn yc] (by rfl) (by simp[Value.oneCell']) (by rfl) (heap_alloc_new w4 _) (by omega) ?_;intro g' cap' w5 hown' ko hbl;obtain⟨abs,hA8,hab8⟩:=(OutInv.app8 (base:=w3.heap.size) HOO.out HC1.out HC2.out HOX.out (fun b hb=>(hb1 b hb).2) hb2 hri hown' ko (fun b hb=>(hbl b hb).imp id (fun e=>by rw[e];exact Nat.le_refl _)) (by omega));have z0:=ko.cell (fun hm=>by have:=hbT _ (.inl hm);omega) v0;have z1:=ko.cell (fun hm=>by have:=hbT _ (.inl hm);omega) v1;have zf0:=ko.frozen (by omega) (fun hm=>by have:=hbT _ (.inl hm);omega) vf0;have zf1:=ko.frozen (by omega) (fun hm=>by have:=hbT _ (.inl hm);omega) vf1;have HA8:=Lib.hid hA8;have HB8:=Lib.hid hab8;have hs5:=ko.size;clear hA8 hab8 hown')
    |(go_simp;go_at_call 146;refine (HAT.out _ HDR3.out.st HVR3.out).mono ?_;rintro e2 w4 ⟨r,yv,yl,rfl,hri,hoy,hy1,hy3,hds⟩;obtain⟨ya,yc,rfl⟩:=hoy.shape;obtain⟨yn,hyn⟩:∃n,yl.length=n:=⟨_,rfl⟩;rw[hyn] at hoy hy1 hy3 ⊢;have HYN:=Lib.hid hyn;have hal:=below_alloc w4 (.cells #[.int .i64 r,.slice ya yn yc] 83);have hd34:DSt w3 (w4.alloc (.cells #[.int .i64 r,.slice ya yn yc] 83)) S len cb:=(((DSt.start HDZ.out.st).below HDRW.out).trans hds).below hal;obtain⟨WN,bssN,csN,hWN,hoN,hc1N,hc2N,hb1,hb2,hb3,hbT⟩:=HDT.out.ready hcbT hd34;have HOO:=Lib.hid hoN;have HC1:=Lib.hid hc1N;have HC2:=Lib.hid hc2N;have HOX:=Lib.hid (hoy.below hal);have u0:=(hds.2.1).cell (b:=w1.heap.size) (o:=0) (by simp<;>omega) (cellk HDRW.out x0);have u1:=(hds.2.1).cell (b:=w1.heap.size) (o:=1) (by simp<;>omega) (cellk HDRW.out x1);have v0:=cellk hal u0;have v1:=cellk hal u1;have vf0:=frok hal u0 ((hds.2.1).frozen (b:=w1.heap.size) (o:=0) (by simp<;>omega) (by simp<;>omega) (frok HDRW.out x0 y0));have vf1:=frok hal u1 ((hds.2.1).frozen (b:=w1.heap.size) (o:=1) (by simp<;>omega) (by simp<;>omega) (frok HDRW.out x1 y1));have hs34:=hd34.size;have hx4:w1.heap.size<(w4.alloc (.cells #[.int .i64 r,.slice ya yn yc] 83)).heap.size:=(by omega);have HD34:=Lib.hid hd34;clear hoy hds hyn hoN hc1N hc2N hd34 hal))
   all_goals
    have hka:=HD34.out.2.1;replace s0:=hka.cell (by simp<;>omega) s0;replace q0:=hka.cell (by simp<;>omega) q0;replace q1:=hka.cell (by simp<;>omega) q1;replace f0:=hka.frozen (by omega) (by simp<;>omega) f0;replace f1:=hka.frozen (by omega) (by simp<;>omega) f1;replace k0:=hka.cell (by simp<;>omega) k0;replace k1:=hka.cell (by simp<;>omega) k1;replace s0:=ko.cell (fun hm=>by have:=(hb1 _ hm).1;omega) s0;replace q0:=ko.cell (fun hm=>by have:=(hb1 _ hm).1;omega) q0;replace q1:=ko.cell (fun hm=>by have:=(hb1 _ hm).1;omega) q1;replace f0:=ko.frozen (by omega) (fun hm=>by have:=(hb1 _ hm).1;omega) f0;replace f1:=ko.frozen (by omega) (fun hm=>by have:=(hb1 _ hm).1;omega) f1;replace k0:=ko.cell (fun hm=>by have:=(hb1 _ hm).1;omega) k0;replace k1:=ko.cell (fun hm=>by have:=(hb1 _ hm).1;omega) k1;replace x0:=z0;replace x1:=z1;go_wp2_with fail
    obtain⟨w6,hw6⟩:∃x,x=w5.setCell ⟨w1.heap.size,1,none⟩ (.slice (some ⟨g',0,none⟩) (d.2.length+1) cap'):=⟨_,rfl⟩
    have kst:OnlyAt [w1.heap.size] w5 w6:=by rw[hw6];exact OnlyAt.setCell _ _ _ _
    have e0:w6.cell? ⟨w1.heap.size,0,none⟩=some (.slice xa d.1.length xc):=by rw[hw6,World.cell?_setCell_other _ _ _ _ (by intro e;cases e)];exact z0
    have e1:w6.cell? ⟨w1.heap.size,1,none⟩=some (.slice (some ⟨g',0,none⟩) (d.2.length+1) cap'):=by rw[hw6];exact World.cell?_setCell_same _ _ _ z1
    rw[←hw6];clear hw6;replace x0:=e0;replace x1:=e1;replace s0:=kst.cell (by simp<;>omega) s0;replace q0:=kst.cell (by simp<;>omega) q0;replace q1:=kst.cell (by simp<;>omega) q1;replace f0:=kst.frozen (by omega) (by simp<;>omega) f0;replace f1:=kst.frozen (by omega) (by simp<;>omega) f1;replace k0:=kst.cell (by simp<;>omega) k0;replace k1:=kst.cell (by simp<;>omega) k1
    have HDA6:Hid (DAs TT w6 (.slice (some ⟨g',0,none⟩) (d.2.length+1) cap') (d.2++[(r,yl)])):=by
     obtain⟨W',hW',hb'⟩:=virt w6 TT (by have:=HA8.out.below.size;have:=kst.size;omega);refine Lib.hid ⟨W',_,hW',HA8.out.rebase (W':=W') (by omega) hb' kst (fun b hb hm=>?_) (fun b hb hm=>?_)⟩
     ·simp only[List.mem_singleton] at hm;rcases hbl b hb with h5|h5
      ·have:=hbT b (.inl h5);omega
      ·rw[h5] at hm;omega
     ·simp only[List.mem_singleton] at hm;simp only[List.flatten_append,List.mem_append] at hb;rcases hb with hb|hb
      ·have:=hbT b (.inr hb);omega
      ·simp at hb;have:=HB8.out b hb;omega
    have HO6:=Lib.hid (((HO3.out.only hka (fun b hb hm=>by have:=(HO3.out.lo b hb).1;have:=hlow b hm;omega)).only ko (fun b hb hm=>by have:=HLT.out b hb;have:=(hb1 b hm).1;omega)).only kst (fun b hb hm=>by have:=HLT.out b hb;have:=HT1.out;simp at hm;omega));replace HDZ:=Lib.hid (((HDZ.out.trans HD34.out).only ko (fun b hb=>by have:=(hb1 b hb).1;omega)).only kst (fun b hb=>by simp at hb;omega));replace HQZ:=Lib.hid (HQ0.out.only HDZ.out.2.1 hlow);replace HVZ:=Lib.hid (HV0.out.only HDZ.out.2.1 (fun b hb hm=>by have:=(HV0.out.lo b hb).1;have:=hlow b hm;omega));have HNZ:=Lib.hid (NearQ.ofCop (d:=(d.1,d.2++[(r,yl)])) HO6.out HLT.out HDA6.out HT0.out);have HQBZ:Hid (QBd 2 4 (d.1,d.2++[(r,yl)])):=⟨HQB.out.1,by simp;omega,fun a ha=>(List.mem_append.1 ha).elim (HQB.out.2.2 a) (fun ha=>by simp at ha;rw[ha];show yl.length≤4;have:=HYN.out;omega)⟩;clear hka ko kst hbl hb1 hb2 hb3 hbT z0 z1 zf0 zf1 e0 e1 v0 v1 vf0 vf1 u0 u1;have hic:=HIQ.out w6 _ (d.1,d.2++[(r,yl)]) HVZ.out HNZ.out.rd HQBZ.out;obtain⟨pf,hpf⟩:∃p,fineB s (d.1,d.2++[(r,yl)]) 4=p:=⟨_,rfl⟩
    rw[hpf] at hic;have HIC:=Lib.hid hic;have HLD:Hid (pf=true→1≤((d.1,d.2++[(r,yl)])).2.length):=fun e=>fine_lenN (hpf.trans e)
    clear hic hpf;go_wp2_with fail
    refine HIC.out.mono ?_;rintro e wy ⟨rfl,hby⟩;have HNY:=Lib.hid (HNZ.out.below hby);have HDY:=Lib.hid (HDZ.out.below hby);have HQY:=Lib.hid (HQZ.out.below hby);replace f0:=frok hby k0 f0;replace f1:=frok hby k1 f1;replace k0:=cellk hby k0;replace k1:=cellk hby k1;replace x0:=cellk hby x0;replace x1:=cellk hby x1;replace q0:=cellk hby q0;replace q1:=cellk hby q1;clear hby s0
    cases pf with
    |true=>
     go_wp2_with fail
     have hk:OnlyAt [w.heap.size+1+1] wy ((wy.setCell ⟨w.heap.size+1+1,0,none⟩ (.slice xa d.1.length xc)).setCell ⟨w.heap.size+1+1,1,none⟩ (.slice (some ⟨g',0,none⟩) (d.2.length+1) cap')):=(OnlyAt.setCell wy _ _ _).same (OnlyAt.setCell _ _ _ _);exact bodyPost_ret (v:=.agg #[.slice xa d.1.length xc,.slice (some ⟨g',0,none⟩) (d.2.length+1) cap']) (by simp[results,Tryz.results125,go_sem,k0,k1]) rfl ⟨_,_,(d.1,d.2++[(r,yl)]),rfl,(HNY.out.only hk (fun b hb=>by simp at hb;omega)).mono (by omega),HQBZ.out,HDY.out.only hk (fun b hb=>by simp at hb;omega),HLD.out (by trivial)⟩
    |false=>
     go_wp2_with fail
     refine (HCP.out wy HQY.out.rd).mono ?_;rintro e wc ⟨h3,b3,T3,rfl,ho3,hlt3,hda3,hT30,hT31,hb3⟩;replace f0:=frok hb3 k0 f0;replace f1:=frok hb3 k1 f1;replace k0:=cellk hb3 k0;replace k1:=cellk hb3 k1;have hyW:=HDY.out.size;have hWy:=HWL.out;have HN3:=Lib.hid (NearQ.ofCop ho3 hlt3 hda3 hT30);have HD3:=Lib.hid (HDY.out.below hb3);obtain⟨ra,rc,rfl⟩:=ho3.shape;obtain⟨ra',rc',rfl⟩:=hda3.shape;have hy3:w.heap.size+3≤wy.heap.size:=Nat.le_trans hWy (Nat.le_trans (NearQ.base_le HNY.out) (Nat.le_refl _));clear hb3 ho3 hlt3 hda3;go_wp2_with fail
     have hk:OnlyAt [w.heap.size+1+1] wc ((wc.setCell ⟨w.heap.size+1+1,0,none⟩ (.slice ra d.1.length rc)).setCell ⟨w.heap.size+1+1,1,none⟩ (.slice ra' d.2.length rc')):=(OnlyAt.setCell wc _ _ _).same (OnlyAt.setCell _ _ _ _);exact bodyPost_ret (v:=.agg #[.slice ra d.1.length rc,.slice ra' d.2.length rc']) (by simp[results,Tryz.results125,go_sem,k0,k1]) rfl ⟨_,_,d,rfl,(HN3.out.only hk (fun b hb=>by simp at hb;omega)).mono (by omega),HQB.out,HD3.out.only hk (fun b hb=>by simp at hb;omega),List.length_pos_iff.2 HDL1.out⟩
  ·have hl4i:¬(d.2.length:Int)<4:=by omega
   go_wp2_with fail
   have hic:=HIQ.out w3 _ d HVZ.out HNZ.out.rd HQBZ.out;obtain⟨pf,hpf⟩:∃p,fineB s d 4=p:=⟨_,rfl⟩
   rw[hpf] at hic;have HIC:=Lib.hid hic;have HLD:Hid (pf=true→1≤(d).2.length):=fun e=>fine_lenN (hpf.trans e)
   clear hic hpf;go_wp2_with fail
   refine HIC.out.mono ?_;rintro e wy ⟨rfl,hby⟩;have HNY:=Lib.hid (HNZ.out.below hby);have HDY:=Lib.hid (HDZ.out.below hby);have HQY:=Lib.hid (HQZ.out.below hby);replace f0:=frok hby k0 f0;replace f1:=frok hby k1 f1;replace k0:=cellk hby k0;replace k1:=cellk hby k1;replace x0:=cellk hby x0;replace x1:=cellk hby x1;replace q0:=cellk hby q0;replace q1:=cellk hby q1;clear hby s0
   cases pf with
   |true=>
    go_wp2_with fail
    have hk:OnlyAt [w.heap.size+1+1] wy ((wy.setCell ⟨w.heap.size+1+1,0,none⟩ (.slice xa d.1.length xc)).setCell ⟨w.heap.size+1+1,1,none⟩ (.slice va d.2.length vc)):=(OnlyAt.setCell wy _ _ _).same (OnlyAt.setCell _ _ _ _);exact bodyPost_ret (v:=.agg #[.slice xa d.1.length xc,.slice va d.2.length vc]) (by simp[results,Tryz.results125,go_sem,k0,k1]) rfl ⟨_,_,d,rfl,(HNY.out.only hk (fun b hb=>by simp at hb;omega)).mono (by omega),HQBZ.out,HDY.out.only hk (fun b hb=>by simp at hb;omega),HLD.out (by trivial)⟩
   |false=>
    go_wp2_with fail
    refine (HCP.out wy HQY.out.rd).mono ?_;rintro e wc ⟨h3,b3,T3,rfl,ho3,hlt3,hda3,hT30,hT31,hb3⟩;replace f0:=frok hb3 k0 f0;replace f1:=frok hb3 k1 f1;replace k0:=cellk hb3 k0;replace k1:=cellk hb3 k1;have hyW:=HDY.out.size;have hWy:=HWL.out;have HN3:=Lib.hid (NearQ.ofCop ho3 hlt3 hda3 hT30);have HD3:=Lib.hid (HDY.out.below hb3);obtain⟨ra,rc,rfl⟩:=ho3.shape;obtain⟨ra',rc',rfl⟩:=hda3.shape;have hy3:w.heap.size+3≤wy.heap.size:=Nat.le_trans hWy (Nat.le_trans (NearQ.base_le HNY.out) (Nat.le_refl _));clear hb3 ho3 hlt3 hda3;go_wp2_with fail
    have hk:OnlyAt [w.heap.size+1+1] wc ((wc.setCell ⟨w.heap.size+1+1,0,none⟩ (.slice ra d.1.length rc)).setCell ⟨w.heap.size+1+1,1,none⟩ (.slice ra' d.2.length rc')):=(OnlyAt.setCell wc _ _ _).same (OnlyAt.setCell _ _ _ _);exact bodyPost_ret (v:=.agg #[.slice ra d.1.length rc,.slice ra' d.2.length rc']) (by simp[results,Tryz.results125,go_sem,k0,k1]) rfl ⟨_,_,d,rfl,(HN3.out.only hk (fun b hb=>by simp at hb;omega)).mono (by omega),HQB.out,HD3.out.only hk (fun b hb=>by simp at hb;omega),List.length_pos_iff.2 HDL1.out⟩
 ·have hal4:=below_alloc w3 (.cells #[.int .i64 3,.int .i64 2,.int .i64 1,.int .i64 0] 3);have HAL4:=Lib.hid hal4;have u0:=cellk hal4 x0;have u1:=cellk hal4 x1;clear hal4;go_wp2_with fail
  obtain⟨w4,hw4⟩:∃x,x=w3.alloc (.cells #[.int .i64 3,.int .i64 2,.int .i64 1,.int .i64 0] 3):=⟨_,rfl⟩
  have hal:Below w3.heap.size w3 w4:=by rw[hw4];exact HAL4.out
  have hlit:Ints w4 (.slice (some ⟨w3.heap.size,0,none⟩) 4 4) [3,2,1,0]:=by
   have:=(OwI.lit w3.heap.size w3 [3,2,1,0] (Nat.le_refl _) (by simp[maxLen]) (fun x hx=>by simp at hx;unfold inI;omega)).ints;rw[hw4];simpa using this
  rw[←hw4];clear hw4 u0 u1;refine (HRN.out w4 _ _ _ _ (HNZ.out.below hal).rd hlit HQB.out).mono ?_;rintro e w5 ⟨zh,zb,T2,rfl,ho4,hlt4,hd4,hT20,hT21,hb5⟩;have hN4:=NearQ.ofCop ho4 hlt4 hd4 hT20;have HN4:=Lib.hid hN4;have hb35:=bnext hal hb5;have HD4:=Lib.hid (HDZ.out.below hb35);have HQB4:=Lib.hid (QBd.renN (tl:=[3,2,1,0]) HQB.out);have h34:=hal.size;have h35:=hb35.size;replace y0:=frok hb35 x0 y0;replace y1:=frok hb35 x1 y1;replace x0:=cellk hb35 x0;replace x1:=cellk hb35 x1;replace f0:=frok hb35 k0 f0;replace f1:=frok hb35 k1 f1;replace k0:=cellk hb35 k0;replace k1:=cellk hb35 k1;replace s0:=cellk hb35 s0;replace q0:=cellk hb35 q0;replace q1:=cellk hb35 q1;obtain⟨za,zc,rfl⟩:=ho4.shape
  obtain⟨ua,un,uc,rfl⟩:∃a n c,zb=.slice a n c:=by
   obtain⟨_,_,_,_,_,_,e,_⟩:=hN4.rd
   cases e;exact⟨_,_,_,rfl⟩
  clear ho4 hlt4 hd4 hb5 hb35 hN4 hal hlit;go_wp2_with fail
  obtain⟨w6,hw9⟩:∃x,x=(w5.setCell ⟨w1.heap.size,0,none⟩ (.slice za (renQ d [3,2,1,0]).1.length zc)).setCell ⟨w1.heap.size,1,none⟩ (.slice ua un uc):=⟨_,rfl⟩
  have hko:OnlyAt [w1.heap.size] w5 w6:=by rw[hw9];exact (OnlyAt.setCell _ _ _ _).same (OnlyAt.setCell _ _ _ _)
  have e0:w6.cell? ⟨w1.heap.size,0,none⟩=some (.slice za (renQ d [3,2,1,0]).1.length zc):=by
   rw[hw9,World.cell?_setCell_other _ _ _ _ (by intro e;cases e)];exact World.cell?_setCell_same _ _ _ x0
  have e1:w6.cell? ⟨w1.heap.size,1,none⟩=some (.slice ua un uc):=by
   have h9:(w5.setCell ⟨w1.heap.size,0,none⟩ (.slice za (renQ d [3,2,1,0]).1.length zc)).cell? ⟨w1.heap.size,1,none⟩=some (.slice va d.2.length vc):=by rw[World.cell?_setCell_other _ _ _ _ (by intro e;cases e)];exact x1
   rw[hw9];exact World.cell?_setCell_same _ _ _ h9
  rw[←hw9];clear hw9;replace x0:=e0;replace x1:=e1;clear e0 e1;replace s0:=hko.cell (by simp<;>omega) s0;replace q0:=hko.cell (by simp<;>omega) q0;replace q1:=hko.cell (by simp<;>omega) q1;replace f0:=hko.frozen (by omega) (by simp<;>omega) f0;replace f1:=hko.frozen (by omega) (by simp<;>omega) f1;replace k0:=hko.cell (by simp<;>omega) k0;replace k1:=hko.cell (by simp<;>omega) k1;replace HDZ:=Lib.hid (HD4.out.only hko (fun b hb=>by simp at hb;omega));replace HQZ:=Lib.hid (HQ0.out.only HDZ.out.2.1 hlow);replace HVZ:=Lib.hid (HV0.out.only HDZ.out.2.1 (fun b hb hm=>by have:=(HV0.out.lo b hb).1;have:=hlow b hm;omega));have HNZ:=Lib.hid ((HN4.out.only hko (fun b hb=>by simp at hb;omega)).mono (show W.heap.size≤w4.heap.size by omega));have HQBZ:=HQB4;clear hko;have hic:=HIQ.out w6 _ (renQ d [3,2,1,0]) HVZ.out HNZ.out.rd HQBZ.out;obtain⟨pf,hpf⟩:∃p,fineB s (renQ d [3,2,1,0]) 4=p:=⟨_,rfl⟩
  rw[hpf] at hic;have HIC:=Lib.hid hic;have HLD:Hid (pf=true→1≤((renQ d [3,2,1,0])).2.length):=fun e=>fine_lenN (hpf.trans e)
  clear hic hpf;go_wp2_with fail
  refine HIC.out.mono ?_;rintro e wy ⟨rfl,hby⟩;have HNY:=Lib.hid (HNZ.out.below hby);have HDY:=Lib.hid (HDZ.out.below hby);have HQY:=Lib.hid (HQZ.out.below hby);replace f0:=frok hby k0 f0;replace f1:=frok hby k1 f1;replace k0:=cellk hby k0;replace k1:=cellk hby k1;replace x0:=cellk hby x0;replace x1:=cellk hby x1;replace q0:=cellk hby q0;replace q1:=cellk hby q1;clear hby s0
  cases pf with
  |true=>
   go_wp2_with fail
   have hk:OnlyAt [w.heap.size+1+1] wy ((wy.setCell ⟨w.heap.size+1+1,0,none⟩ (.slice za (renQ d [3,2,1,0]).1.length zc)).setCell ⟨w.heap.size+1+1,1,none⟩ (.slice ua un uc)):=(OnlyAt.setCell wy _ _ _).same (OnlyAt.setCell _ _ _ _);exact bodyPost_ret (v:=.agg #[.slice za (renQ d [3,2,1,0]).1.length zc,.slice ua un uc]) (by simp[results,Tryz.results125,go_sem,k0,k1]) rfl ⟨_,_,(renQ d [3,2,1,0]),rfl,(HNY.out.only hk (fun b hb=>by simp at hb;omega)).mono (by omega),HQBZ.out,HDY.out.only hk (fun b hb=>by simp at hb;omega),HLD.out (by trivial)⟩
  |false=>
   go_wp2_with fail
   refine (HCP.out wy HQY.out.rd).mono ?_;rintro e wc ⟨h3,b3,T3,rfl,ho3,hlt3,hda3,hT30,hT31,hb3⟩;replace f0:=frok hb3 k0 f0;replace f1:=frok hb3 k1 f1;replace k0:=cellk hb3 k0;replace k1:=cellk hb3 k1;have hyW:=HDY.out.size;have hWy:=HWL.out;have HN3:=Lib.hid (NearQ.ofCop ho3 hlt3 hda3 hT30);have HD3:=Lib.hid (HDY.out.below hb3);obtain⟨ra,rc,rfl⟩:=ho3.shape;obtain⟨ra',rc',rfl⟩:=hda3.shape;have hy3:w.heap.size+3≤wy.heap.size:=Nat.le_trans hWy (Nat.le_trans (NearQ.base_le HNY.out) (Nat.le_refl _));clear hb3 ho3 hlt3 hda3;go_wp2_with fail
   have hk:OnlyAt [w.heap.size+1+1] wc ((wc.setCell ⟨w.heap.size+1+1,0,none⟩ (.slice ra d.1.length rc)).setCell ⟨w.heap.size+1+1,1,none⟩ (.slice ra' d.2.length rc')):=(OnlyAt.setCell wc _ _ _).same (OnlyAt.setCell _ _ _ _);exact bodyPost_ret (v:=.agg #[.slice ra d.1.length rc,.slice ra' d.2.length rc']) (by simp[results,Tryz.results125,go_sem,k0,k1]) rfl ⟨_,_,d,rfl,(HN3.out.only hk (fun b hb=>by simp at hb;omega)).mono (by omega),HQB.out,HD3.out.only hk (fun b hb=>by simp at hb;omega),List.length_pos_iff.2 HDL1.out⟩
 ·have HDRW:=Lib.hid (Below.refl w3.heap.size w3).drew;have HDR3:=Lib.hid (HDZ.out.below HDRW.out);have HND3:=Lib.hid (HNZ.out.below HDRW.out);have hcbW:∀b∈[cb],b<W.heap.size:=fun b hb=>by have:=hlow b hb;omega
  go_wp2_with fail
  go_region_law (first
   |(go_simp;go_at_call 150;refine (HTM.out _ HDa.out.st).mono ?_;rintro e2 w5 ⟨yb,hyb0,hyb1,rfl,hcurb,hgb⟩;have HDb:=Lib.hid (HDa.out.draw hcurb hgb);have HNb:=Lib.hid (HNa.out.only (grownBy_only hgb) hcbW);have v0:=(grownBy_only hgb).cell (by simp<;>omega) u0;have v1:=(grownBy_only hgb).cell (by simp<;>omega) u1;have vf0:=(grownBy_only hgb).frozen (by omega) (by simp<;>omega) uf0;have vf1:=(grownBy_only hgb).frozen (by omega) (by simp<;>omega) uf1;have hs5:=(grownBy_only hgb).size;have HAL5:=Lib.hid (fun xs=>below_alloc w5 (.cells xs 3));have v0a:=fun xs=>cellk (HAL5.out xs) v0;have v1a:=fun xs=>cellk (HAL5.out xs) v1;have HKB:=Lib.hid (HKA.out.same (grownBy_only hgb));clear hcurb hgb)
   |(go_simp;go_at_call 150;refine (HTM.out _ HDR3.out.st).mono ?_;rintro e2 w4 ⟨ya,hya0,hya1,rfl,hcura,hga⟩;have HDa:=Lib.hid (HDR3.out.draw hcura hga);have HNa:=Lib.hid (HND3.out.only (grownBy_only hga) hcbW);have u0:=(grownBy_only hga).cell (b:=w1.heap.size) (o:=0) (by simp<;>omega) (cellk HDRW.out x0);have u1:=(grownBy_only hga).cell (b:=w1.heap.size) (o:=1) (by simp<;>omega) (cellk HDRW.out x1);have uf0:=(grownBy_only hga).frozen (b:=w1.heap.size) (o:=0) (by simp<;>omega) (by simp<;>omega) (frok HDRW.out x0 y0);have uf1:=(grownBy_only hga).frozen (b:=w1.heap.size) (o:=1) (by simp<;>omega) (by simp<;>omega) (frok HDRW.out x1 y1);have hs4:=(grownBy_only hga).size;(try simp at hs4);have HKA:=Lib.hid ((OnlyAt.ofBelow [cb] HDRW.out).same (grownBy_only hga));clear hcura hga)
   |(go_simp;go_at_call 141;(first
    |(refine (HRN.out _ _ _ d [ya,yb] (HNb.out.below (below_alloc w5 _)).rd (Lit2.ints w5 ya yb hya0 hya1 hyb0 hyb1) HQB.out).mono ?_;rintro e2 w6 ⟨zh,zb,T2,rfl,ho4,hlt4,hd4,hT20,hT21,hb5⟩;obtain⟨D9,hD9⟩:∃D9,D9=renQ d [ya,yb]:=⟨_,rfl⟩;rw[←hD9] at ho4 hd4;have HQB4:Hid (QBd 2 4 D9):=(by rw[hD9];exact QBd.renN HQB.out);clear hD9)
    |(refine (HRN.out _ _ _ d [yb,ya] (HNb.out.below (below_alloc w5 _)).rd (Lit2.ints w5 yb ya hyb0 hyb1 hya0 hya1) HQB.out).mono ?_;rintro e2 w6 ⟨zh,zb,T2,rfl,ho4,hlt4,hd4,hT20,hT21,hb5⟩;obtain⟨D9,hD9⟩:∃D9,D9=renQ d [yb,ya]:=⟨_,rfl⟩;rw[←hD9] at ho4 hd4;have HQB4:Hid (QBd 2 4 D9):=(by rw[hD9];exact QBd.renN HQB.out);clear hD9));have HN4:=Lib.hid ((NearQ.ofCop ho4 hlt4 hd4 hT20).mono (show w5.heap.size≤_ by simp));have hb56:=bnext (below_alloc w5 _) hb5;have HKC:=Lib.hid (HKB.out.same (OnlyAt.ofBelow [cb] hb56));have h56:=hb56.size;have t0:=cellk hb56 v0;have t1:=cellk hb56 v1;have tf0:=frok hb56 v0 vf0;have tf1:=frok hb56 v1 vf1;have HD4:=Lib.hid (HDb.out.below hb56);obtain⟨za,zc,rfl⟩:=ho4.shape;obtain⟨ua,uc,rfl⟩:=hd4.shape))
  all_goals
   have hko:=HKC.out;replace x0:=t0;replace x1:=t1;replace y0:=tf0;replace y1:=tf1;replace s0:=hko.cell (by simp<;>omega) s0;replace q0:=hko.cell (by simp<;>omega) q0;replace q1:=hko.cell (by simp<;>omega) q1;replace f0:=hko.frozen (by omega) (by simp<;>omega) f0;replace f1:=hko.frozen (by omega) (by simp<;>omega) f1;replace k0:=hko.cell (by simp<;>omega) k0;replace k1:=hko.cell (by simp<;>omega) k1;clear hko;go_wp2_with fail
   obtain⟨w7,hw9⟩:∃x,x=(w6.setCell ⟨w1.heap.size,0,none⟩ (.slice za D9.1.length zc)).setCell ⟨w1.heap.size,1,none⟩ (.slice ua D9.2.length uc):=⟨_,rfl⟩
   have hko:OnlyAt [w1.heap.size] w6 w7:=by rw[hw9];exact (OnlyAt.setCell _ _ _ _).same (OnlyAt.setCell _ _ _ _)
   have e0:w7.cell? ⟨w1.heap.size,0,none⟩=some (.slice za D9.1.length zc):=by
    rw[hw9,World.cell?_setCell_other _ _ _ _ (by intro e;cases e)];exact World.cell?_setCell_same _ _ _ x0
   have e1:w7.cell? ⟨w1.heap.size,1,none⟩=some (.slice ua D9.2.length uc):=by
    have h9:(w6.setCell ⟨w1.heap.size,0,none⟩ (.slice za D9.1.length zc)).cell? ⟨w1.heap.size,1,none⟩=some (.slice va d.2.length vc):=by rw[World.cell?_setCell_other _ _ _ _ (by intro e;cases e)];exact x1
    rw[hw9];exact World.cell?_setCell_same _ _ _ h9
   rw[←hw9];clear hw9;replace x0:=e0;replace x1:=e1;clear e0 e1;replace s0:=hko.cell (by simp<;>omega) s0;replace q0:=hko.cell (by simp<;>omega) q0;replace q1:=hko.cell (by simp<;>omega) q1;replace f0:=hko.frozen (by omega) (by simp<;>omega) f0;replace f1:=hko.frozen (by omega) (by simp<;>omega) f1;replace k0:=hko.cell (by simp<;>omega) k0;replace k1:=hko.cell (by simp<;>omega) k1;replace HDZ:=Lib.hid (HD4.out.only hko (fun b hb=>by simp at hb;omega));replace HQZ:=Lib.hid (HQ0.out.only HDZ.out.2.1 hlow);replace HVZ:=Lib.hid (HV0.out.only HDZ.out.2.1 (fun b hb hm=>by have:=(HV0.out.lo b hb).1;have:=hlow b hm;omega));have HNZ:=Lib.hid ((HN4.out.only hko (fun b hb=>by simp at hb;omega)).mono (show W.heap.size≤w5.heap.size by omega));have HQBZ:=HQB4;clear hko;have hic:=HIQ.out w7 _ D9 HVZ.out HNZ.out.rd HQBZ.out;obtain⟨pf,hpf⟩:∃p,fineB s D9 4=p:=⟨_,rfl⟩
   rw[hpf] at hic;have HIC:=Lib.hid hic;have HLD:Hid (pf=true→1≤(D9).2.length):=fun e=>fine_lenN (hpf.trans e)
   clear hic hpf;go_wp2_with fail
   refine HIC.out.mono ?_;rintro e wy ⟨rfl,hby⟩;have HNY:=Lib.hid (HNZ.out.below hby);have HDY:=Lib.hid (HDZ.out.below hby);have HQY:=Lib.hid (HQZ.out.below hby);replace f0:=frok hby k0 f0;replace f1:=frok hby k1 f1;replace k0:=cellk hby k0;replace k1:=cellk hby k1;replace x0:=cellk hby x0;replace x1:=cellk hby x1;replace q0:=cellk hby q0;replace q1:=cellk hby q1;clear hby s0
   cases pf with
   |true=>
    go_wp2_with fail
    have hk:OnlyAt [w.heap.size+1+1] wy ((wy.setCell ⟨w.heap.size+1+1,0,none⟩ (.slice za D9.1.length zc)).setCell ⟨w.heap.size+1+1,1,none⟩ (.slice ua D9.2.length uc)):=(OnlyAt.setCell wy _ _ _).same (OnlyAt.setCell _ _ _ _);exact bodyPost_ret (v:=.agg #[.slice za D9.1.length zc,.slice ua D9.2.length uc]) (by simp[results,Tryz.results125,go_sem,k0,k1]) rfl ⟨_,_,D9,rfl,(HNY.out.only hk (fun b hb=>by simp at hb;omega)).mono (by omega),HQBZ.out,HDY.out.only hk (fun b hb=>by simp at hb;omega),HLD.out (by trivial)⟩
   |false=>
    go_wp2_with fail
    refine (HCP.out wy HQY.out.rd).mono ?_;rintro e wc ⟨h3,b3,T3,rfl,ho3,hlt3,hda3,hT30,hT31,hb3⟩;replace f0:=frok hb3 k0 f0;replace f1:=frok hb3 k1 f1;replace k0:=cellk hb3 k0;replace k1:=cellk hb3 k1;have hyW:=HDY.out.size;have hWy:=HWL.out;have HN3:=Lib.hid (NearQ.ofCop ho3 hlt3 hda3 hT30);have HD3:=Lib.hid (HDY.out.below hb3);obtain⟨ra,rc,rfl⟩:=ho3.shape;obtain⟨ra',rc',rfl⟩:=hda3.shape;have hy3:w.heap.size+3≤wy.heap.size:=Nat.le_trans hWy (Nat.le_trans (NearQ.base_le HNY.out) (Nat.le_refl _));clear hb3 ho3 hlt3 hda3;go_wp2_with fail
    have hk:OnlyAt [w.heap.size+1+1] wc ((wc.setCell ⟨w.heap.size+1+1,0,none⟩ (.slice ra d.1.length rc)).setCell ⟨w.heap.size+1+1,1,none⟩ (.slice ra' d.2.length rc')):=(OnlyAt.setCell wc _ _ _).same (OnlyAt.setCell _ _ _ _);exact bodyPost_ret (v:=.agg #[.slice ra d.1.length rc,.slice ra' d.2.length rc']) (by simp[results,Tryz.results125,go_sem,k0,k1]) rfl ⟨_,_,d,rfl,(HN3.out.only hk (fun b hb=>by simp at hb;omega)).mono (by omega),HQB.out,HD3.out.only hk (fun b hb=>by simp at hb;omega),List.length_pos_iff.2 HDL1.out⟩
 ·by_cases hlen:1<d.2.length
  ·obtain⟨g,rfl,hgT⟩:=DAs.formN HDA.out hlen;have hcap:=HCAP.out;have hl1:(1:Int)≤d.2.length:=by omega
   have hl1b:(1:Int)<d.2.length:=by omega
   have hl0:(0:Int)<d.2.length:=by omega
   have hl0n:0<d.2.length:=by omega
   have hvc:¬vc=1:=by omega
   obtain⟨g9,r,yl,ya,yn,yc,bsy,e9,hun,h0e,g0,g1,hri,hoy,hynd,hybs,hyn⟩:=HDA.out.elem0 hl0n
   cases e9;have hcbT:cb<TT:=by omega
   have hal:=(below_alloc w3 (.cells #[.int .i64 r,.slice ya yn yc] 83)).drew;obtain⟨WN,bssN,csN,hWN,hoN,hcN,heN,hb1,hb2,hb3,hbT⟩:=HDT.out.ready hcbT ((DSt.start HDZ.out.st).below hal);have HOA:=Lib.hid hoN;have HCA:=Lib.hid hcN;have HEA:=Lib.hid heN;have HBT:=Lib.hid hbT;have hgX:g<w1.heap.size:=hbT g (.inl (by simp[blk]));have hxA:=Nat.lt_of_lt_of_le hx3 hal.size;have yf0:=frok hal x0 y0;have yf1:=frok hal x1 y1;have hc0:csN[0]?=some (.int .i64 r):=by rw[←hcN.cell 0 (by omega)];exact cellk hal g0
   have hc1:csN[1]?=some (.slice ya yn yc):=by rw[←hcN.cell 1 (by omega)];exact cellk hal g1
   have HC0:=Lib.hid hc0;have HC1:=Lib.hid hc1;have HAL:=Lib.hid hal;have HBK:Hid (((w3.alloc (.cells #[.int .i64 r,.slice ya yn yc] 83)).drew).heap[w3.heap.size]?=some (.cells #[.int .i64 r,.slice ya yn yc] 83 (0,0))):=heap_alloc_new w3 _;have hlN:d.2.length≤4:=HQB.out.2.1;have hal3:=below_alloc w3 (.cells #[.int .i64 r,.slice ya yn yc] 83);have v0:=cellk hal3 x0;have v1:=cellk hal3 x1;clear hoN hcN heN hal hc0 hc1 hoy hynd hybs hyn h0e hal3 hun hb1 hb2 hb3 hbT;go_wp2_with fail
   go_region_law (first
    |(refine step_rot (by rfl) (.tmp 61) (.tmp 66) 27 (by rfl) 83 (.agg #[.int .i64 0,.slice none 0 0]) 32 Tryz.underlying27 info_Atom (by decide) (by rfl) g d.2.length vc csN HCA.out hlen (by omega) (by rfl) w3.heap.size (.int .i64 r) (.slice ya yn yc) (by rfl) HBK.out (by rfl) (by rfl) ?_;intro g' off' cap' w5 hc9 hm9 hlt9 hg9 ko hcell9;have HROT:=Lib.hid (FtA.rot hWN HOA.out HCA.out HEA.out hlen HC0.out HC1.out hc9 hm9 hlt9 hg9 ko hcell9);have z0:=ko.cell (by simp<;>omega) (cellk HAL.out x0);have z1:=ko.cell (by simp<;>omega) (cellk HAL.out x1);have zf0:=ko.frozen hxA (by simp<;>omega) yf0;have zf1:=ko.frozen hxA (by simp<;>omega) yf1;have hs5:=ko.size;clear hcell9))
   all_goals
    have hka:=HAL.out;replace f0:=frok hka k0 f0;replace f1:=frok hka k1 f1;replace k0:=cellk hka k0;replace k1:=cellk hka k1;replace s0:=cellk hka s0;replace q0:=cellk hka q0;replace q1:=cellk hka q1;replace y0:=ko.frozen (Nat.lt_of_lt_of_le hx3 hka.size) (by simp<;>omega) (frok hka x0 y0);replace y1:=ko.frozen (Nat.lt_of_lt_of_le hx3 hka.size) (by simp<;>omega) (frok hka x1 y1);have hka2:=hka.size;replace s0:=ko.cell (by simp<;>omega) s0;replace q0:=ko.cell (by simp<;>omega) q0;replace q1:=ko.cell (by simp<;>omega) q1;replace f0:=ko.frozen (by omega) (by simp<;>omega) f0;replace f1:=ko.frozen (by omega) (by simp<;>omega) f1;replace k0:=ko.cell (by simp<;>omega) k0;replace k1:=ko.cell (by simp<;>omega) k1;replace x0:=z0;replace x1:=z1;go_wp2_with fail
    obtain⟨w6,hw6⟩:∃x,x=w5.setCell ⟨w1.heap.size,1,none⟩ (.slice (some ⟨g',off',none⟩) d.2.length cap'):=⟨_,rfl⟩
    have kst:OnlyAt [w1.heap.size] w5 w6:=by rw[hw6];exact OnlyAt.setCell _ _ _ _
    have e0:w6.cell? ⟨w1.heap.size,0,none⟩=some (.slice xa d.1.length xc):=by rw[hw6,World.cell?_setCell_other _ _ _ _ (by intro e;cases e)];exact z0
    have e1:w6.cell? ⟨w1.heap.size,1,none⟩=some (.slice (some ⟨g',off',none⟩) d.2.length cap'):=by rw[hw6];exact World.cell?_setCell_same _ _ _ z1
    rw[←hw6];clear hw6;replace x0:=e0;replace x1:=e1;replace s0:=kst.cell (by simp<;>omega) s0;replace q0:=kst.cell (by simp<;>omega) q0;replace q1:=kst.cell (by simp<;>omega) q1;replace f0:=kst.frozen (by omega) (by simp<;>omega) f0;replace f1:=kst.frozen (by omega) (by simp<;>omega) f1;replace k0:=kst.cell (by simp<;>omega) k0;replace k1:=kst.cell (by simp<;>omega) k1;have HO6:=Lib.hid (((HO3.out.below hka).only ko (fun b hb hm=>by have:=HLT.out b hb;simp at hm;omega)).only kst (fun b hb hm=>by have:=HLT.out b hb;have:=HT1.out;simp at hm;omega));replace HDZ:=Lib.hid (((HDZ.out.below hka).only ko (fun b hb=>by simp at hb;omega)).only kst (fun b hb=>by simp at hb;omega));replace HQZ:=Lib.hid (HQ0.out.only HDZ.out.2.1 hlow);replace HVZ:=Lib.hid (HV0.out.only HDZ.out.2.1 (fun b hb hm=>by have:=(HV0.out.lo b hb).1;have:=hlow b hm;omega))
    have HNZ:Hid (NearQ W.heap.size w6 (.slice xa d.1.length xc) (.slice (some ⟨g',off',none⟩) d.2.length cap') (d.1,d.2.drop 1++d.2.take 1)):=by
     obtain⟨bs9,hft9,hbs9⟩:=HROT.out;refine Lib.hid ⟨bs9,HO6.out,hft9.only kst (fun b hb hm=>?_),fun b hb=>Nat.le_trans HT0.out (hbs9 b hb).1,fun b hb hm=>by have:=HLT.out b hb;have:=(hbs9 b hm).1;omega⟩;simp at hm;rcases (hbs9 b hb).2 with h6|h6
     ·have:=HBT.out b (.inr h6);omega
     ·rcases hg9 with h5|h5
      ·have:=HBT.out g (.inl (by simp[blk]));omega
      ·have:=HAL.out.size;omega
    have HQBZ:Hid (QBd 2 4 (d.1,d.2.drop 1++d.2.take 1)):=⟨HQB.out.1,by simp;omega,fun a ha=>(List.mem_append.1 ha).elim (fun h9=>HQB.out.2.2 a (List.mem_of_mem_drop h9)) (fun h9=>HQB.out.2.2 a (List.mem_of_mem_take h9))⟩;clear hka ko kst z0 z1 e0 e1 v0 v1;have hic:=HIQ.out w6 _ (d.1,d.2.drop 1++d.2.take 1) HVZ.out HNZ.out.rd HQBZ.out;obtain⟨pf,hpf⟩:∃p,fineB s (d.1,d.2.drop 1++d.2.take 1) 4=p:=⟨_,rfl⟩
    rw[hpf] at hic;have HIC:=Lib.hid hic;have HLD:Hid (pf=true→1≤((d.1,d.2.drop 1++d.2.take 1)).2.length):=fun e=>fine_lenN (hpf.trans e)
    clear hic hpf;go_wp2_with fail
    refine HIC.out.mono ?_;rintro e wy ⟨rfl,hby⟩;have HNY:=Lib.hid (HNZ.out.below hby);have HDY:=Lib.hid (HDZ.out.below hby);have HQY:=Lib.hid (HQZ.out.below hby);replace f0:=frok hby k0 f0;replace f1:=frok hby k1 f1;replace k0:=cellk hby k0;replace k1:=cellk hby k1;replace x0:=cellk hby x0;replace x1:=cellk hby x1;replace q0:=cellk hby q0;replace q1:=cellk hby q1;clear hby s0
    cases pf with
    |true=>
     go_wp2_with fail
     have hk:OnlyAt [w.heap.size+1+1] wy ((wy.setCell ⟨w.heap.size+1+1,0,none⟩ (.slice xa d.1.length xc)).setCell ⟨w.heap.size+1+1,1,none⟩ (.slice (some ⟨g',off',none⟩) d.2.length cap')):=(OnlyAt.setCell wy _ _ _).same (OnlyAt.setCell _ _ _ _);exact bodyPost_ret (v:=.agg #[.slice xa d.1.length xc,.slice (some ⟨g',off',none⟩) d.2.length cap']) (by simp[results,Tryz.results125,go_sem,k0,k1]) rfl ⟨_,_,(d.1,d.2.drop 1++d.2.take 1),rfl,(HNY.out.only hk (fun b hb=>by simp at hb;omega)).mono (by omega),HQBZ.out,HDY.out.only hk (fun b hb=>by simp at hb;omega),HLD.out (by trivial)⟩
    |false=>
     go_wp2_with fail
     refine (HCP.out wy HQY.out.rd).mono ?_;rintro e wc ⟨h3,b3,T3,rfl,ho3,hlt3,hda3,hT30,hT31,hb3⟩;replace f0:=frok hb3 k0 f0;replace f1:=frok hb3 k1 f1;replace k0:=cellk hb3 k0;replace k1:=cellk hb3 k1;have hyW:=HDY.out.size;have hWy:=HWL.out;have HN3:=Lib.hid (NearQ.ofCop ho3 hlt3 hda3 hT30);have HD3:=Lib.hid (HDY.out.below hb3);obtain⟨ra,rc,rfl⟩:=ho3.shape;obtain⟨ra',rc',rfl⟩:=hda3.shape;have hy3:w.heap.size+3≤wy.heap.size:=Nat.le_trans hWy (Nat.le_trans (NearQ.base_le HNY.out) (Nat.le_refl _));clear hb3 ho3 hlt3 hda3;go_wp2_with fail
     have hk:OnlyAt [w.heap.size+1+1] wc ((wc.setCell ⟨w.heap.size+1+1,0,none⟩ (.slice ra d.1.length rc)).setCell ⟨w.heap.size+1+1,1,none⟩ (.slice ra' d.2.length rc')):=(OnlyAt.setCell wc _ _ _).same (OnlyAt.setCell _ _ _ _);exact bodyPost_ret (v:=.agg #[.slice ra d.1.length rc,.slice ra' d.2.length rc']) (by simp[results,Tryz.results125,go_sem,k0,k1]) rfl ⟨_,_,d,rfl,(HN3.out.only hk (fun b hb=>by simp at hb;omega)).mono (by omega),HQB.out,HD3.out.only hk (fun b hb=>by simp at hb;omega),List.length_pos_iff.2 HDL1.out⟩
  ·go_wp2_with fail
   have hic:=HIQ.out w3 _ d HVZ.out HNZ.out.rd HQBZ.out;obtain⟨pf,hpf⟩:∃p,fineB s d 4=p:=⟨_,rfl⟩
   rw[hpf] at hic;have HIC:=Lib.hid hic;have HLD:Hid (pf=true→1≤(d).2.length):=fun e=>fine_lenN (hpf.trans e)
   clear hic hpf;go_wp2_with fail
   refine HIC.out.mono ?_;rintro e wy ⟨rfl,hby⟩;have HNY:=Lib.hid (HNZ.out.below hby);have HDY:=Lib.hid (HDZ.out.below hby);have HQY:=Lib.hid (HQZ.out.below hby);replace f0:=frok hby k0 f0;replace f1:=frok hby k1 f1;replace k0:=cellk hby k0;replace k1:=cellk hby k1;replace x0:=cellk hby x0;replace x1:=cellk hby x1;replace q0:=cellk hby q0;replace q1:=cellk hby q1;clear hby s0
   cases pf with
   |true=>
    go_wp2_with fail
    have hk:OnlyAt [w.heap.size+1+1] wy ((wy.setCell ⟨w.heap.size+1+1,0,none⟩ (.slice xa d.1.length xc)).setCell ⟨w.heap.size+1+1,1,none⟩ (.slice va d.2.length vc)):=(OnlyAt.setCell wy _ _ _).same (OnlyAt.setCell _ _ _ _);exact bodyPost_ret (v:=.agg #[.slice xa d.1.length xc,.slice va d.2.length vc]) (by simp[results,Tryz.results125,go_sem,k0,k1]) rfl ⟨_,_,d,rfl,(HNY.out.only hk (fun b hb=>by simp at hb;omega)).mono (by omega),HQBZ.out,HDY.out.only hk (fun b hb=>by simp at hb;omega),HLD.out (by trivial)⟩
   |false=>
    go_wp2_with fail
    refine (HCP.out wy HQY.out.rd).mono ?_;rintro e wc ⟨h3,b3,T3,rfl,ho3,hlt3,hda3,hT30,hT31,hb3⟩;replace f0:=frok hb3 k0 f0;replace f1:=frok hb3 k1 f1;replace k0:=cellk hb3 k0;replace k1:=cellk hb3 k1;have hyW:=HDY.out.size;have hWy:=HWL.out;have HN3:=Lib.hid (NearQ.ofCop ho3 hlt3 hda3 hT30);have HD3:=Lib.hid (HDY.out.below hb3);obtain⟨ra,rc,rfl⟩:=ho3.shape;obtain⟨ra',rc',rfl⟩:=hda3.shape;have hy3:w.heap.size+3≤wy.heap.size:=Nat.le_trans hWy (Nat.le_trans (NearQ.base_le HNY.out) (Nat.le_refl _));clear hb3 ho3 hlt3 hda3;go_wp2_with fail
    have hk:OnlyAt [w.heap.size+1+1] wc ((wc.setCell ⟨w.heap.size+1+1,0,none⟩ (.slice ra d.1.length rc)).setCell ⟨w.heap.size+1+1,1,none⟩ (.slice ra' d.2.length rc')):=(OnlyAt.setCell wc _ _ _).same (OnlyAt.setCell _ _ _ _);exact bodyPost_ret (v:=.agg #[.slice ra d.1.length rc,.slice ra' d.2.length rc']) (by simp[results,Tryz.results125,go_sem,k0,k1]) rfl ⟨_,_,d,rfl,(HN3.out.only hk (fun b hb=>by simp at hb;omega)).mono (by omega),HQB.out,HD3.out.only hk (fun b hb=>by simp at hb;omega),List.length_pos_iff.2 HDL1.out⟩
 ·by_cases hl4:d.2.length<4
  ·have hl4i:(d.2.length:Int)<4:=by omega
   have HDRW:=Lib.hid (Below.refl w3.heap.size w3).drew;have hcbT:cb<TT:=by omega
   have HAL3:=Lib.hid (fun xs=>below_alloc w3 (.cells xs 3));have HLB:=Lib.hid (fun xs=>(below_alloc w3 (.cells xs 3)).drew);have x0a:=fun xs=>cellk (HAL3.out xs) x0
   have x1a:=fun xs=>cellk (HAL3.out xs) x1
   have q0a:=fun xs=>cellk (HAL3.out xs) q0
   have q1a:=fun xs=>cellk (HAL3.out xs) q1
   have HL3:Hid (Ints (w3.alloc (.cells #[.int .i64 5,.int .i64 6,.int .i64 7] 3)).drew (.slice (some ⟨w3.heap.size,0,none⟩) 3 3) [5,6,7]):=by
    have h9:=(OwI.lit w3.heap.size w3 [5,6,7] (Nat.le_refl _) (by simp[maxLen]) (fun x hx=>by simp at hx;unfold inI;omega)).ints;exact Lib.hid ((show Ints (w3.alloc (.cells #[.int .i64 5,.int .i64 6,.int .i64 7] 3)) (.slice (some ⟨w3.heap.size,0,none⟩) 3 3) [5,6,7] from by simpa using h9).below (Below.refl _ _).drew)
   have hfd:∀(w:World) (a1:Option Addr) (n1 c1:Nat) (a2:Option Addr) (n2 c2:Nat),(Instr.field 29 (.agg #[.slice a1 n1 c1,.slice a2 n2 c2]) 1).run Tryz.prog w=.ok (.slice a2 n2 c2) w:=fun _ _ _ _ _ _ _=>by kernel_rfl
   have HRQL:Hid (0<(renQ d [5,6,7]).2.length):=by unfold renQ Hid;simpa using List.length_pos_iff.2 HDL1.out
   have HRA:Hid (∀r yl,(renQ d [5,6,7]).2[0]?=some (r,yl)→yl.length≤4):=fun r yl h9=>(QBd.renN (tl:=[5,6,7]) HQB.out).2.2 _ (List.mem_of_getElem? h9)
   go_wp2_with fail
   go_region_law (first
    |(refine step_app1D (by rfl) (.tmp 76) (.tmp 83) 27 (by rfl) 83 (.agg #[.int .i64 0,.slice none 0 0]) 2 32 Tryz.underlying27 info_Atom (by decide) (by decide) (by rfl) (.slice va d.2.length vc) d.2.length csN (by rfl) HC1.out w4.heap.size [.int .i64 r,.slice ya yn yc] (by rfl) (by simp[Value.oneCell']) (by rfl) (heap_alloc_new w4 _) (by omega) ?_;intro g' cap' w5 hown' ko hbl;obtain⟨abs,hA8,hab8⟩:=(OutInv.appO (base:=w3.heap.size) HOO.out HC1.out HC2.out HOX.out HOX2.out HOX3.out (fun b hb=>(hb1 b hb).2) hb2 hri hown' ko (fun b hb=>(hbl b hb).imp id (fun e=>by rw[e];exact Nat.le_refl _)) (by omega));have z0:=ko.cell (fun hm=>by have:=hbT _ (.inl hm);omega) v0;have z1:=ko.cell (fun hm=>by have:=hbT _ (.inl hm);omega) v1;have zf0:=ko.frozen (by omega) (fun hm=>by have:=hbT _ (.inl hm);omega) vf0;have zf1:=ko.frozen (by omega) (fun hm=>by have:=hbT _ (.inl hm);omega) vf1;have HA8:=Lib.hid hA8;have HB8:=Lib.hid hab8;have hs5:=ko.size;clear hA8 hab8 hown')
    |(go_simp;go_at_call 141;refine (HRN.out _ _ _ d [5,6,7] (HQZ.out.below (HLB.out _)).rd HL3.out HQB.out).mono ?_;rintro e2 w4 ⟨zh,zb,T2,rfl,ho4,hlt4,hd4,hT20,hT21,hb5⟩;obtain⟨za,zc,rfl⟩:=ho4.shape;obtain⟨ua,un,uc,rfl⟩:∃a n c,zb=.slice a n c:=(by obtain⟨a9,c9,e9⟩:=hd4.shape;exact⟨_,_,_,e9⟩);obtain⟨g2,r,yl,ya,yn,yc,bsy,rfl,hun,h0e,g0,g1,hri,hoy,hynd,hybs,hyn⟩:=hd4.elem0 HRQL.out;have hun0:0<un:=(by rw[hun];exact HRQL.out);have hun1:(0:Int)<un:=(by omega);have HYN:=Lib.hid hyn;have HYL:=Lib.hid (HRA.out r yl h0e);have hb34:=bnext (HLB.out _) hb5;have hal:=below_alloc w4 (.cells #[.int .i64 r,.slice ya yn yc] 83);have hd34:DSt w3 (w4.alloc (.cells #[.int .i64 r,.slice ya yn yc] 83)) S len cb:=((DSt.start HDZ.out.st).below hb34).below hal;obtain⟨WN,bssN,csN,hWN,hoN,hc1N,hc2N,hb1,hb2,hb3,hbT⟩:=HDT.out.ready hcbT hd34;have HOO:=Lib.hid hoN;have HC1:=Lib.hid hc1N;have HC2:=Lib.hid hc2N;have HOX:=Lib.hid (hoy.below hal);have HOX2:=Lib.hid hynd;have HOX3:Hid (∀b∈bsy,w3.heap.size≤b∧b<(w4.alloc (.cells #[.int .i64 r,.slice ya yn yc] 83)).heap.size):=(fun b hb=>by have h9:=hybs b hb;have h8:=(HLB.out #[.int .i64 5,.int .i64 6,.int .i64 7]).size;simp at hT20 h8 ⊢;omega);have u0:=cellk hb34 x0;have u1:=cellk hb34 x1;have v0:=cellk hal u0;have v1:=cellk hal u1;have uf0:=frok hb34 x0 y0;have uf1:=frok hb34 x1 y1;have vf0:=frok hal u0 uf0;have vf1:=frok hal u1 uf1;have hs34:=hd34.size;have hx4:w1.heap.size<(w4.alloc (.cells #[.int .i64 r,.slice ya yn yc] 83)).heap.size:=(by omega);have HD34:=Lib.hid hd34;clear hoy hyn hoN hc1N hc2N hd34 hal hd4 ho4 hlt4 h0e hynd hybs hb5 hb34 hun hT20 hT21))
   all_goals
    have hka:=HD34.out.2.1;replace s0:=hka.cell (by simp<;>omega) s0;replace q0:=hka.cell (by simp<;>omega) q0;replace q1:=hka.cell (by simp<;>omega) q1;replace f0:=hka.frozen (by omega) (by simp<;>omega) f0;replace f1:=hka.frozen (by omega) (by simp<;>omega) f1;replace k0:=hka.cell (by simp<;>omega) k0;replace k1:=hka.cell (by simp<;>omega) k1;replace s0:=ko.cell (fun hm=>by have:=(hb1 _ hm).1;omega) s0;replace q0:=ko.cell (fun hm=>by have:=(hb1 _ hm).1;omega) q0;replace q1:=ko.cell (fun hm=>by have:=(hb1 _ hm).1;omega) q1;replace f0:=ko.frozen (by omega) (fun hm=>by have:=(hb1 _ hm).1;omega) f0;replace f1:=ko.frozen (by omega) (fun hm=>by have:=(hb1 _ hm).1;omega) f1;replace k0:=ko.cell (fun hm=>by have:=(hb1 _ hm).1;omega) k0;replace k1:=ko.cell (fun hm=>by have:=(hb1 _ hm).1;omega) k1;replace x0:=z0;replace x1:=z1;go_wp2_with fail
    obtain⟨w6,hw6⟩:∃x,x=w5.setCell ⟨w1.heap.size,1,none⟩ (.slice (some ⟨g',0,none⟩) (d.2.length+1) cap'):=⟨_,rfl⟩
    have kst:OnlyAt [w1.heap.size] w5 w6:=by rw[hw6];exact OnlyAt.setCell _ _ _ _
    have e0:w6.cell? ⟨w1.heap.size,0,none⟩=some (.slice xa d.1.length xc):=by rw[hw6,World.cell?_setCell_other _ _ _ _ (by intro e;cases e)];exact z0
    have e1:w6.cell? ⟨w1.heap.size,1,none⟩=some (.slice (some ⟨g',0,none⟩) (d.2.length+1) cap'):=by rw[hw6];exact World.cell?_setCell_same _ _ _ z1
    rw[←hw6];clear hw6;replace x0:=e0;replace x1:=e1;replace s0:=kst.cell (by simp<;>omega) s0;replace q0:=kst.cell (by simp<;>omega) q0;replace q1:=kst.cell (by simp<;>omega) q1;replace f0:=kst.frozen (by omega) (by simp<;>omega) f0;replace f1:=kst.frozen (by omega) (by simp<;>omega) f1;replace k0:=kst.cell (by simp<;>omega) k0;replace k1:=kst.cell (by simp<;>omega) k1
    have HDA6:Hid (DAs TT w6 (.slice (some ⟨g',0,none⟩) (d.2.length+1) cap') (d.2++[(r,yl)])):=by
     obtain⟨W',hW',hb'⟩:=virt w6 TT (by have:=HA8.out.below.size;have:=kst.size;omega);refine Lib.hid ⟨W',_,hW',HA8.out.rebase (W':=W') (by omega) hb' kst (fun b hb hm=>?_) (fun b hb hm=>?_)⟩
     ·simp only[List.mem_singleton] at hm;rcases hbl b hb with h5|h5
      ·have:=hbT b (.inl h5);omega
      ·rw[h5] at hm;omega
     ·simp only[List.mem_singleton] at hm;simp only[List.flatten_append,List.mem_append] at hb;rcases hb with hb|hb
      ·have:=hbT b (.inr hb);omega
      ·simp at hb;have:=HB8.out b hb;omega
    have HO6:=Lib.hid (((HO3.out.only hka (fun b hb hm=>by have:=(HO3.out.lo b hb).1;have:=hlow b hm;omega)).only ko (fun b hb hm=>by have:=HLT.out b hb;have:=(hb1 b hm).1;omega)).only kst (fun b hb hm=>by have:=HLT.out b hb;have:=HT1.out;simp at hm;omega));replace HDZ:=Lib.hid (((HDZ.out.trans HD34.out).only ko (fun b hb=>by have:=(hb1 b hb).1;omega)).only kst (fun b hb=>by simp at hb;omega));replace HQZ:=Lib.hid (HQ0.out.only HDZ.out.2.1 hlow);replace HVZ:=Lib.hid (HV0.out.only HDZ.out.2.1 (fun b hb hm=>by have:=(HV0.out.lo b hb).1;have:=hlow b hm;omega));have HNZ:=Lib.hid (NearQ.ofCop (d:=(d.1,d.2++[(r,yl)])) HO6.out HLT.out HDA6.out HT0.out);have HQBZ:Hid (QBd 2 4 (d.1,d.2++[(r,yl)])):=⟨HQB.out.1,by simp;omega,fun a ha=>(List.mem_append.1 ha).elim (HQB.out.2.2 a) (fun ha=>by simp at ha;rw[ha];exact HYL.out)⟩;clear hka ko kst hbl hb1 hb2 hb3 hbT z0 z1 zf0 zf1 e0 e1 v0 v1 vf0 vf1 u0 u1;have hic:=HIQ.out w6 _ (d.1,d.2++[(r,yl)]) HVZ.out HNZ.out.rd HQBZ.out;obtain⟨pf,hpf⟩:∃p,fineB s (d.1,d.2++[(r,yl)]) 4=p:=⟨_,rfl⟩
    rw[hpf] at hic;have HIC:=Lib.hid hic;have HLD:Hid (pf=true→1≤((d.1,d.2++[(r,yl)])).2.length):=fun e=>fine_lenN (hpf.trans e)
    clear hic hpf;go_wp2_with fail
    refine HIC.out.mono ?_;rintro e wy ⟨rfl,hby⟩;have HNY:=Lib.hid (HNZ.out.below hby);have HDY:=Lib.hid (HDZ.out.below hby);have HQY:=Lib.hid (HQZ.out.below hby);replace f0:=frok hby k0 f0;replace f1:=frok hby k1 f1;replace k0:=cellk hby k0;replace k1:=cellk hby k1;replace x0:=cellk hby x0;replace x1:=cellk hby x1;replace q0:=cellk hby q0;replace q1:=cellk hby q1;clear hby s0
    cases pf with
    |true=>
     go_wp2_with fail
     have hk:OnlyAt [w.heap.size+1+1] wy ((wy.setCell ⟨w.heap.size+1+1,0,none⟩ (.slice xa d.1.length xc)).setCell ⟨w.heap.size+1+1,1,none⟩ (.slice (some ⟨g',0,none⟩) (d.2.length+1) cap')):=(OnlyAt.setCell wy _ _ _).same (OnlyAt.setCell _ _ _ _);exact bodyPost_ret (v:=.agg #[.slice xa d.1.length xc,.slice (some ⟨g',0,none⟩) (d.2.length+1) cap']) (by simp[results,Tryz.results125,go_sem,k0,k1]) rfl ⟨_,_,(d.1,d.2++[(r,yl)]),rfl,(HNY.out.only hk (fun b hb=>by simp at hb;omega)).mono (by omega),HQBZ.out,HDY.out.only hk (fun b hb=>by simp at hb;omega),HLD.out (by trivial)⟩
    |false=>
     go_wp2_with fail
     refine (HCP.out wy HQY.out.rd).mono ?_;rintro e wc ⟨h3,b3,T3,rfl,ho3,hlt3,hda3,hT30,hT31,hb3⟩;replace f0:=frok hb3 k0 f0;replace f1:=frok hb3 k1 f1;replace k0:=cellk hb3 k0;replace k1:=cellk hb3 k1;have hyW:=HDY.out.size;have hWy:=HWL.out;have HN3:=Lib.hid (NearQ.ofCop ho3 hlt3 hda3 hT30);have HD3:=Lib.hid (HDY.out.below hb3);obtain⟨ra,rc,rfl⟩:=ho3.shape;obtain⟨ra',rc',rfl⟩:=hda3.shape;have hy3:w.heap.size+3≤wy.heap.size:=Nat.le_trans hWy (Nat.le_trans (NearQ.base_le HNY.out) (Nat.le_refl _));clear hb3 ho3 hlt3 hda3;go_wp2_with fail
     have hk:OnlyAt [w.heap.size+1+1] wc ((wc.setCell ⟨w.heap.size+1+1,0,none⟩ (.slice ra d.1.length rc)).setCell ⟨w.heap.size+1+1,1,none⟩ (.slice ra' d.2.length rc')):=(OnlyAt.setCell wc _ _ _).same (OnlyAt.setCell _ _ _ _);exact bodyPost_ret (v:=.agg #[.slice ra d.1.length rc,.slice ra' d.2.length rc']) (by simp[results,Tryz.results125,go_sem,k0,k1]) rfl ⟨_,_,d,rfl,(HN3.out.only hk (fun b hb=>by simp at hb;omega)).mono (by omega),HQB.out,HD3.out.only hk (fun b hb=>by simp at hb;omega),List.length_pos_iff.2 HDL1.out⟩
  ·have hl4i:¬(d.2.length:Int)<4:=by omega
   go_wp2_with fail
   have hic:=HIQ.out w3 _ d HVZ.out HNZ.out.rd HQBZ.out;obtain⟨pf,hpf⟩:∃p,fineB s d 4=p:=⟨_,rfl⟩
   rw[hpf] at hic;have HIC:=Lib.hid hic;have HLD:Hid (pf=true→1≤(d).2.length):=fun e=>fine_lenN (hpf.trans e)
   clear hic hpf;go_wp2_with fail
   refine HIC.out.mono ?_;rintro e wy ⟨rfl,hby⟩;have HNY:=Lib.hid (HNZ.out.below hby);have HDY:=Lib.hid (HDZ.out.below hby);have HQY:=Lib.hid (HQZ.out.below hby);replace f0:=frok hby k0 f0;replace f1:=frok hby k1 f1;replace k0:=cellk hby k0;replace k1:=cellk hby k1;replace x0:=cellk hby x0;replace x1:=cellk hby x1;replace q0:=cellk hby q0;replace q1:=cellk hby q1;clear hby s0
   cases pf with
   |true=>
    go_wp2_with fail
    have hk:OnlyAt [w.heap.size+1+1] wy ((wy.setCell ⟨w.heap.size+1+1,0,none⟩ (.slice xa d.1.length xc)).setCell ⟨w.heap.size+1+1,1,none⟩ (.slice va d.2.length vc)):=(OnlyAt.setCell wy _ _ _).same (OnlyAt.setCell _ _ _ _);exact bodyPost_ret (v:=.agg #[.slice xa d.1.length xc,.slice va d.2.length vc]) (by simp[results,Tryz.results125,go_sem,k0,k1]) rfl ⟨_,_,d,rfl,(HNY.out.only hk (fun b hb=>by simp at hb;omega)).mono (by omega),HQBZ.out,HDY.out.only hk (fun b hb=>by simp at hb;omega),HLD.out (by trivial)⟩
   |false=>
    go_wp2_with fail
    refine (HCP.out wy HQY.out.rd).mono ?_;rintro e wc ⟨h3,b3,T3,rfl,ho3,hlt3,hda3,hT30,hT31,hb3⟩;replace f0:=frok hb3 k0 f0;replace f1:=frok hb3 k1 f1;replace k0:=cellk hb3 k0;replace k1:=cellk hb3 k1;have hyW:=HDY.out.size;have hWy:=HWL.out;have HN3:=Lib.hid (NearQ.ofCop ho3 hlt3 hda3 hT30);have HD3:=Lib.hid (HDY.out.below hb3);obtain⟨ra,rc,rfl⟩:=ho3.shape;obtain⟨ra',rc',rfl⟩:=hda3.shape;have hy3:w.heap.size+3≤wy.heap.size:=Nat.le_trans hWy (Nat.le_trans (NearQ.base_le HNY.out) (Nat.le_refl _));clear hb3 ho3 hlt3 hda3;go_wp2_with fail
    have hk:OnlyAt [w.heap.size+1+1] wc ((wc.setCell ⟨w.heap.size+1+1,0,none⟩ (.slice ra d.1.length rc)).setCell ⟨w.heap.size+1+1,1,none⟩ (.slice ra' d.2.length rc')):=(OnlyAt.setCell wc _ _ _).same (OnlyAt.setCell _ _ _ _);exact bodyPost_ret (v:=.agg #[.slice ra d.1.length rc,.slice ra' d.2.length rc']) (by simp[results,Tryz.results125,go_sem,k0,k1]) rfl ⟨_,_,d,rfl,(HN3.out.only hk (fun b hb=>by simp at hb;omega)).mono (by omega),HQB.out,HD3.out.only hk (fun b hb=>by simp at hb;omega),List.length_pos_iff.2 HDL1.out⟩
 ·go_wp2_with fail
  refine (HLQ.out w3 HDZ.out.st HVZ.out).mono ?_;rintro e w4 ⟨zh,zb,d',T2,rfl,ho4,hd4,hT20,hT21,hqb4,hds⟩;have hN4:=NearQ.ofDrew ho4 hd4 hT20;have HD4:=Lib.hid (HDZ.out.trans hds);have HQB4:Hid (QBd 2 4 d'):=⟨hqb4.1,by have:=hqb4.2.1;omega,hqb4.2.2⟩;have hko:=hds.2.1;replace y0:=hko.frozen (by omega) (by simp<;>omega) y0;replace y1:=hko.frozen (by omega) (by simp<;>omega) y1;replace x0:=hko.cell (by simp<;>omega) x0;replace x1:=hko.cell (by simp<;>omega) x1;replace s0:=hko.cell (by simp<;>omega) s0;replace q0:=hko.cell (by simp<;>omega) q0;replace q1:=hko.cell (by simp<;>omega) q1;replace f0:=hko.frozen (by omega) (by simp<;>omega) f0;replace f1:=hko.frozen (by omega) (by simp<;>omega) f1;replace k0:=hko.cell (by simp<;>omega) k0;replace k1:=hko.cell (by simp<;>omega) k1;have h34:=hds.size;have HN4:=Lib.hid hN4;obtain⟨za,zc,rfl⟩:=ho4.shape
  obtain⟨ua,un,uc,rfl⟩:∃a n c,zb=.slice a n c:=by
   obtain⟨_,_,_,_,_,_,e,_⟩:=hN4.rd
   cases e;exact⟨_,_,_,rfl⟩
  clear hko ho4 hd4 hds hN4 hqb4;go_wp2_with fail
  obtain⟨w5,hw9⟩:∃x,x=(w4.setCell ⟨w1.heap.size,0,none⟩ (.slice za d'.1.length zc)).setCell ⟨w1.heap.size,1,none⟩ (.slice ua un uc):=⟨_,rfl⟩
  have hko:OnlyAt [w1.heap.size] w4 w5:=by rw[hw9];exact (OnlyAt.setCell _ _ _ _).same (OnlyAt.setCell _ _ _ _)
  have e0:w5.cell? ⟨w1.heap.size,0,none⟩=some (.slice za d'.1.length zc):=by
   rw[hw9,World.cell?_setCell_other _ _ _ _ (by intro e;cases e)];exact World.cell?_setCell_same _ _ _ x0
  have e1:w5.cell? ⟨w1.heap.size,1,none⟩=some (.slice ua un uc):=by
   have h9:(w4.setCell ⟨w1.heap.size,0,none⟩ (.slice za d'.1.length zc)).cell? ⟨w1.heap.size,1,none⟩=some (.slice va d.2.length vc):=by rw[World.cell?_setCell_other _ _ _ _ (by intro e;cases e)];exact x1
   rw[hw9];exact World.cell?_setCell_same _ _ _ h9
  rw[←hw9];clear hw9;replace x0:=e0;replace x1:=e1;clear e0 e1;replace s0:=hko.cell (by simp<;>omega) s0;replace q0:=hko.cell (by simp<;>omega) q0;replace q1:=hko.cell (by simp<;>omega) q1;replace f0:=hko.frozen (by omega) (by simp<;>omega) f0;replace f1:=hko.frozen (by omega) (by simp<;>omega) f1;replace k0:=hko.cell (by simp<;>omega) k0;replace k1:=hko.cell (by simp<;>omega) k1;replace HDZ:=Lib.hid (HD4.out.only hko (fun b hb=>by simp at hb;omega));replace HQZ:=Lib.hid (HQ0.out.only HDZ.out.2.1 hlow);replace HVZ:=Lib.hid (HV0.out.only HDZ.out.2.1 (fun b hb hm=>by have:=(HV0.out.lo b hb).1;have:=hlow b hm;omega));have HNZ:=Lib.hid ((HN4.out.only hko (fun b hb=>by simp at hb;omega)).mono (show W.heap.size≤w3.heap.size by omega));have HQBZ:=HQB4;clear hko;have hic:=HIQ.out w5 _ d' HVZ.out HNZ.out.rd HQBZ.out;obtain⟨pf,hpf⟩:∃p,fineB s d' 4=p:=⟨_,rfl⟩
  rw[hpf] at hic;have HIC:=Lib.hid hic;have HLD:Hid (pf=true→1≤(d').2.length):=fun e=>fine_lenN (hpf.trans e)
  clear hic hpf;go_wp2_with fail
  refine HIC.out.mono ?_;rintro e wy ⟨rfl,hby⟩;have HNY:=Lib.hid (HNZ.out.below hby);have HDY:=Lib.hid (HDZ.out.below hby);have HQY:=Lib.hid (HQZ.out.below hby);replace f0:=frok hby k0 f0;replace f1:=frok hby k1 f1;replace k0:=cellk hby k0;replace k1:=cellk hby k1;replace x0:=cellk hby x0;replace x1:=cellk hby x1;replace q0:=cellk hby q0;replace q1:=cellk hby q1;clear hby s0
  cases pf with
  |true=>
   go_wp2_with fail
   have hk:OnlyAt [w.heap.size+1+1] wy ((wy.setCell ⟨w.heap.size+1+1,0,none⟩ (.slice za d'.1.length zc)).setCell ⟨w.heap.size+1+1,1,none⟩ (.slice ua un uc)):=(OnlyAt.setCell wy _ _ _).same (OnlyAt.setCell _ _ _ _);exact bodyPost_ret (v:=.agg #[.slice za d'.1.length zc,.slice ua un uc]) (by simp[results,Tryz.results125,go_sem,k0,k1]) rfl ⟨_,_,d',rfl,(HNY.out.only hk (fun b hb=>by simp at hb;omega)).mono (by omega),HQBZ.out,HDY.out.only hk (fun b hb=>by simp at hb;omega),HLD.out (by trivial)⟩
  |false=>
   go_wp2_with fail
   refine (HCP.out wy HQY.out.rd).mono ?_;rintro e wc ⟨h3,b3,T3,rfl,ho3,hlt3,hda3,hT30,hT31,hb3⟩;replace f0:=frok hb3 k0 f0;replace f1:=frok hb3 k1 f1;replace k0:=cellk hb3 k0;replace k1:=cellk hb3 k1;have hyW:=HDY.out.size;have hWy:=HWL.out;have HN3:=Lib.hid (NearQ.ofCop ho3 hlt3 hda3 hT30);have HD3:=Lib.hid (HDY.out.below hb3);obtain⟨ra,rc,rfl⟩:=ho3.shape;obtain⟨ra',rc',rfl⟩:=hda3.shape;have hy3:w.heap.size+3≤wy.heap.size:=Nat.le_trans hWy (Nat.le_trans (NearQ.base_le HNY.out) (Nat.le_refl _));clear hb3 ho3 hlt3 hda3;go_wp2_with fail
   have hk:OnlyAt [w.heap.size+1+1] wc ((wc.setCell ⟨w.heap.size+1+1,0,none⟩ (.slice ra d.1.length rc)).setCell ⟨w.heap.size+1+1,1,none⟩ (.slice ra' d.2.length rc')):=(OnlyAt.setCell wc _ _ _).same (OnlyAt.setCell _ _ _ _);exact bodyPost_ret (v:=.agg #[.slice ra d.1.length rc,.slice ra' d.2.length rc']) (by simp[results,Tryz.results125,go_sem,k0,k1]) rfl ⟨_,_,d,rfl,(HN3.out.only hk (fun b hb=>by simp at hb;omega)).mono (by omega),HQB.out,HD3.out.only hk (fun b hb=>by simp at hb;omega),List.length_pos_iff.2 HDL1.out⟩
end Go.Proofs.YtpedpbbiamhgdaaGreatDoor
