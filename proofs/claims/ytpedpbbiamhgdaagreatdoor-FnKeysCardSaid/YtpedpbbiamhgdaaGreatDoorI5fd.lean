import Derived.Test.YtpedpbbiamhgdaaGreatDoorSatom
import Derived.Test.YtpedpbbiamhgdaaGreatDoorS5all
import Derived.StillTailTactics
import Derived.Test.YtpedpbbiamhgdaaGreatDoorIrAll
namespace Go.Proofs.YtpedpbbiamhgdaaGreatDoor
open Go Go.Sort Go.RowKit
set_option linter.unusedVariables false
theorem isNaN_int (x:Int) (w:World) :
  Calls Tryz.prog 192 #[.int .i64 x] w fun e w'=>e=.returned (.bool false)∧w=w':=by
 go_enter Tryz.func192,Tryz.ntmps192
 go_wp2
 go_ret;exact⟨rfl,rfl⟩
def cmpI (x y:Int):Int:=if x<y then -1 else if y<x then 1 else 0
theorem cmp_int (x y:Int) (w:World) :
  Calls Tryz.prog 158 #[.int .i64 x,.int .i64 y] w fun e w'=>e=.returned (.int .i64 (cmpI x y))∧w=w':=by
 have hx:=isNaN_int x;have hy:=isNaN_int y;by_cases h:x<y
 ·have H:Hid (cmpI x y=-1):=by unfold Hid cmpI;rw[if_pos h]
  go_enter Tryz.func158,Tryz.ntmps158
  go_wp2_with fail
  refine (hx _).mono ?_;rintro e w1 ⟨rfl,rfl⟩;go_wp2_with fail
  refine (hy _).mono ?_;rintro e w1 ⟨rfl,rfl⟩;go_wp2_with fail
  go_ret;exact⟨ret_i64 H.out.symm,rfl⟩
 ·by_cases h2:y<x
  ·have H:Hid (cmpI x y=1):=by unfold Hid cmpI;rw[if_neg h,if_pos h2]
   go_enter Tryz.func158,Tryz.ntmps158
   go_wp2_with fail
   refine (hx _).mono ?_;rintro e w1 ⟨rfl,rfl⟩;go_wp2_with fail
   refine (hy _).mono ?_;rintro e w1 ⟨rfl,rfl⟩;go_wp2_with fail
   go_ret;exact⟨ret_i64 H.out.symm,rfl⟩
  ·have H:Hid (cmpI x y=0):=by unfold Hid cmpI;rw[if_neg h,if_neg h2]
   go_enter Tryz.func158,Tryz.ntmps158
   go_wp2_with fail
   refine (hx _).mono ?_;rintro e w1 ⟨rfl,rfl⟩;go_wp2_with fail
   refine (hy _).mono ?_;rintro e w1 ⟨rfl,rfl⟩;go_wp2_with fail
   go_ret;exact⟨ret_i64 H.out.symm,rfl⟩
def cmpL (l r:List Int):Int:=if lessB l r then -1 else if l=r then 0 else 1
theorem cmpL_at {l r:List Int} (i:Nat) (h1:i<l.length) (h2:i<r.length) (he:∀j,j<i→l.getD j 0=r.getD j 0) (hne:l.getD i 0≠r.getD i 0):cmpL l r=cmpI (l.getD i 0) (r.getD i 0):=by
 unfold cmpL cmpI;rw[lessB_at i h1 h2 he hne,if_neg (fun e:l=r=>hne (by rw[e]))];simp only[decide_eq_true_eq];by_cases h:l.getD i 0<r.getD i 0
 ·rw[if_pos h,if_pos h]
 ·rw[if_neg h,if_neg h,if_pos (by omega)]
theorem cmpL_long {l r:List Int} (h:r.length<l.length) (he:∀j,j<r.length→l.getD j 0=r.getD j 0):cmpL l r=1:=by
 unfold cmpL;rw[lessB_end (fun j _ h2=>he j h2),decide_eq_false (by omega),if_neg (by simp),if_neg (fun e=>by rw[e] at h;omega)]
theorem cmpL_short {l r:List Int} (h:l.length<r.length) (he:∀j,j<l.length→l.getD j 0=r.getD j 0):cmpL l r=-1:=by
 unfold cmpL;rw[lessB_end (fun j h1 _=>he j h1),decide_eq_true h,if_pos rfl]
theorem cmpL_same {l r:List Int} (h:l.length=r.length) (he:∀j,j<l.length→l.getD j 0=r.getD j 0):cmpL l r=0:=by
 unfold cmpL;rw[lessB_end (fun j h1 _=>he j h1),decide_eq_false (by omega),if_neg (by simp),if_pos (of_decide_eq_true (dec_yes h he))]
theorem cmpL_neg (l r:List Int):decide (cmpL l r<0)=lessB l r:=by
 unfold cmpL
 cases lessB l r
 ·rw[if_neg (by simp)]
  split<;>rfl
 ·rfl
theorem cmpI_ne {x y:Int} (h:x≠y):cmpI x y≠0:=by
 unfold cmpI
 split
 ·decide
 ·split
  ·decide
  ·omega
theorem cmpI_eq (x:Int):cmpI x x=0:=by unfold cmpI;simp
set_option maxHeartbeats 2000000 in
theorem iCompareE_any (w:World) (v v':Value) (l l':List Int) (h:Ints w v l) (h':Ints w v' l') :
  Calls Tryz.prog 119 #[v,v'] w (fun e w'=>e=.returned (.int .i64 (cmpL l l'))∧w=w'):=by
 obtain⟨a,n,cap,rfl,hl,hn,hm,hcell⟩:=h.cases;obtain⟨a',n',cap',rfl,hl',hn',hm',hcell'⟩:=h'.cases;unfold maxLen at hm hm';have HC:=Lib.hid hcell;have HC':=Lib.hid hcell';have HL:=Lib.hid hl;have HL':=Lib.hid hl';have hcmp:=Lib.hid cmp_int;clear h h' hcell hcell' hl hl';go_enter Tryz.func119,Tryz.ntmps119
 go_wp2_with fail
 go_loopw [11] (fun iv wr=>∃i:Nat,i≤n∧i≤n'∧iv=.int .i64 i∧wr=w∧Hid (∀j,j<i→l.getD j 0=l'.getD j 0)) (fun iv _=>n-(intOf iv).toNat)
 case atStart=>exact⟨0,by omega,by omega,rfl,rfl,fun j hj=>by omega⟩
 case round=>
  obtain⟨i,hi,hi',rfl,rfl,HE⟩:=hrel;by_cases hlt:i<n
  ·obtain⟨b,off,rfl,hbw,hc⟩:=HC.out (by omega);have c1:=hc i hlt;clear hc hbw;have hi0:(0:Int)≤i:=by omega
   have hi1:(i:Int)<n:=by omega
   by_cases hlt':i<n'
   ·obtain⟨b',off',rfl,hbw',hc'⟩:=HC'.out (by omega);have c2:=hc' i hlt';clear hc' hbw';have hi2:(i:Int)<n':=by omega
    have hi3:¬((n':Int)≤i):=by omega
    by_cases heq:l.getD i 0=l'.getD i 0
    ·have HQ:=Lib.hid (fun j (e:j=i)=>(by rw[e];exact heq:l.getD j 0=l'.getD j 0));rw[←heq] at c2;have hq:=hcmp.out (l.getD i 0) (l.getD i 0);rw[cmpI_eq] at hq;clear heq;generalize l.getD i 0=x at *;go_wp2_with fail
     refine (hq _).mono ?_;rintro e w1 ⟨rfl,rfl⟩;go_wp2_with fail
     refine⟨⟨i+1,by omega,by omega,by simp,by trivial,fun j hj=>?_⟩,by simp[intOf];omega⟩;rcases Nat.lt_or_ge j i with h|h
     ·exact HE.out j h
     ·exact HQ.out j (by omega)
    ·have HQ:=Lib.hid (cmpL_at i (by rw[HL.out];exact hlt) (by rw[HL'.out];exact hlt') HE.out heq);have hq:=hcmp.out (l.getD i 0) (l'.getD i 0);have q:(cmpI (l.getD i 0) (l'.getD i 0) != 0)=true:=bne_iff_ne.2 (cmpI_ne heq);clear heq;generalize cmpI (l.getD i 0) (l'.getD i 0)=c at *;generalize l.getD i 0=x at *;generalize l'.getD i 0=y at *;go_wp2_with fail
     refine (hq _).mono ?_;rintro e w1 ⟨rfl,rfl⟩;go_wp2_with fail
     go_ret;exact⟨ret_n HQ.out.symm,rfl⟩
   ·obtain rfl:i=n':=by omega
    have HX:=Lib.hid (cmpL_long (l:=l) (r:=l') (by rw[HL.out,HL'.out];exact hlt) (fun j hj=>HE.out j (by rw[←HL'.out];exact hj)));have hi3:((i:Int)≤i):=by omega
    clear hlt';generalize l.getD i 0=x at *;go_wp2_with fail
    go_ret;exact⟨ret_n HX.out.symm,rfl⟩
  ·obtain rfl:i=n:=by omega
   by_cases hq:i<n'
   ·have HX:=Lib.hid (cmpL_short (l:=l) (r:=l') (by rw[HL.out,HL'.out];exact hq) (fun j hj=>HE.out j (by rw[←HL.out];exact hj)));have q2:decide (i<n')=true:=decide_eq_true hq;have q3:(i:Int)<n':=by omega
    go_wp2_with fail
    go_ret;exact⟨ret_n HX.out.symm,rfl⟩
   ·obtain rfl:i=n':=by omega
    have HX:=Lib.hid (cmpL_same (l:=l) (r:=l') (by rw[HL.out,HL'.out]) (fun j hj=>HE.out j (by rw[←HL.out];exact hj)));go_wp2_with fail
    go_ret;exact⟨ret_n HX.out.symm,rfl⟩
def orI (x y:Int):Int:=if x=0 then y else x
set_option maxHeartbeats 1000000 in
theorem iOr_any (w:World) (b:Nat) (x y:Int) (c0:w.cell? ⟨b,0,none⟩=some (.int .i64 x)) (c1:w.cell? ⟨b,1,none⟩=some (.int .i64 y)) :
  Calls Tryz.prog 216 #[.slice (some ⟨b,0,none⟩) 2 2] w fun e w'=>e=.returned (.int .i64 (orI x y))∧w=w':=by
 have C0:=Lib.hid c0;have C1:=Lib.hid c1;clear c0 c1;go_enter Tryz.func216,Tryz.ntmps216
 go_wp2_with fail
 go_loopw [8] (fun iv wr=>∃i:Nat,i≤2∧iv=.int .i64 i∧wr=w∧Hid (1≤i→x=0)∧Hid (2≤i→y=0)) (fun iv _=>2-(intOf iv).toNat)
 case atStart=>exact⟨0,by omega,rfl,rfl,fun h=>by omega,fun h=>by omega⟩
 case round=>
  obtain⟨i,hi,rfl,rfl,HX,HY⟩:=hrel;rcases (by omega:i=0∨i=1∨i=2) with rfl|rfl|rfl
  ·have c0:=C0.out;by_cases hx:x=0
   ·have HX0:=Lib.hid hx;have q:(x != 0)=false:=by rw[hx];rfl
    clear hx;go_wp2_with fail
    exact⟨⟨1,by omega,by simp,by trivial,fun _=>HX0.out,fun h=>by omega⟩,by simp[intOf]⟩
   ·have q:(x != 0)=true:=bne_iff_ne.2 hx;have HQ:Hid (orI x y=x):=if_neg hx;clear hx;go_wp2_with fail
    go_ret;exact⟨ret_i64 HQ.out.symm,rfl⟩
  ·have c1:=C1.out;have HX0:=HX.out (by omega);have HQ:Hid (orI x y=y):=if_pos HX0;clear HX0;by_cases hx:y=0
   ·have HX0:=Lib.hid hx;have q:(y != 0)=false:=by rw[hx];rfl
    clear hx;go_wp2_with fail
    exact⟨⟨2,by omega,by simp,by trivial,fun _=>HX.out (by omega),fun h=>HX0.out⟩,by simp[intOf]⟩
   ·have q:(y != 0)=true:=bne_iff_ne.2 hx;clear hx;go_wp2_with fail
    go_ret;exact⟨ret_i64 HQ.out.symm,rfl⟩
  ·have HQ:Hid (orI x y=0):=by unfold Hid orI;rw[if_pos (HX.out (by omega)),HY.out (by omega)]
   go_wp2_with fail
   go_ret;exact⟨ret_i64 HQ.out.symm,rfl⟩
def cmpF (x y:AtomD):Int:=if lessF x y then -1 else if x=y then 0 else 1
theorem cmpF_eq (r r':Int) (l l':List Int):orI (cmpI r r') (cmpL l l')=cmpF (r,l) (r',l'):=by
 unfold orI cmpF lessF lessAtomB cmpI;by_cases h:r=r'
 ·subst h;simp only[Int.lt_irrefl,if_false,if_true,Prod.mk.injEq,true_and];rfl
 ·by_cases h2:r<r'
  ·simp[h,h2]
  ·have h3:r'<r:=by omega
   simp[h,h2,h3]
theorem lessL_irrefl (l:List Int):lessB l l=false:=by
 rw[lessB_end (fun j _ _=>rfl)];simp
theorem lessF_irrefl (x:AtomD):lessF x x=false:=by unfold lessF lessAtomB;rw[if_pos rfl,lessL_irrefl]
theorem cmpF_zero (x y:AtomD):decide (cmpF x y=0)=decide (x=y):=by
 by_cases h:x=y
 ·subst h;unfold cmpF;rw[lessF_irrefl];simp
 ·unfold cmpF;cases lessF x y<;>simp[h]
set_option maxRecDepth 100000 in
set_option maxHeartbeats 2000000 in
theorem iCmpF_any (w:World) (v v':Value) (x y:AtomD) (h:RdAtom w v x) (h':RdAtom w v' y) :
  Calls Tryz.prog 215 #[v,v'] w (GaveInt w (cmpF x y)):=by
 obtain⟨a,n,c,rfl,hi,h⟩:=h;obtain⟨a',n',c',rfl,hi',h'⟩:=h';obtain⟨r,l⟩:=x;obtain⟨r',l'⟩:=y;rw[←cmpF_eq];simp only at h h' ⊢;have hb0:∀o o',Below w.heap.size w ((w.alloc o).alloc o'):=fun o o'=>(below_alloc w o).trans ((below_alloc _ o').mono (by simp))
 have HB0:=Lib.hid hb0;have HI:=Lib.hid h;have HI':=Lib.hid h';have HS:=Lib.hid (fun w h h'=>iCompareE_any w (.slice a n c) (.slice a' n' c') l l' h h');have HC:=Lib.hid (fun w=>cmp_int r r' w);have HO:=Lib.hid (fun w b=>iOr_any w b (cmpI r r') (cmpL l l'));generalize cmpI r r'=p at *;generalize cmpL l l'=q at *;generalize orI p q=z at *;clear h h' hi hi' hb0;go_enter Tryz.func215,Tryz.ntmps215
 go_wp2_with fail
 obtain⟨W,hW⟩:∃W,W=((w.alloc (.cells #[.int .i64 r,.slice a n c] 127)).alloc (.cells #[.int .i64 r',.slice a' n' c'] 127)):=⟨_,rfl⟩
 obtain⟨V,hV⟩:∃V,V={ W with drawn:=W.drawn+1 }:=⟨_,rfl⟩
 have hWV:Below W.heap.size W V:=by rw[hV];exact (Below.refl _ _).drew
 have k0:V.cell? ⟨w.heap.size,0,none⟩=some (.int .i64 r):=cellk hWV (by rw[hW];simp);have k1:V.cell? ⟨w.heap.size,1,none⟩=some (.slice a n c):=cellk hWV (by rw[hW];simp);have k2:V.cell? ⟨w.heap.size+1,0,none⟩=some (.int .i64 r'):=cellk hWV (by rw[hW];simp);have k3:V.cell? ⟨w.heap.size+1,1,none⟩=some (.slice a' n' c'):=cellk hWV (by rw[hW];simp);have HBV:Hid (Below w.heap.size w V):=bnext (by rw[hW];exact HB0.out _ _) hWV;have hS:=Lib.hid ((HS.out V (HI.out.below HBV.out) (HI'.out.below HBV.out)).mono fun e w' ⟨h1,h2⟩=>(⟨h1,h2.symm⟩:e=Ending.returned (.int .i64 q)∧w'=V));have hC:=Lib.hid ((HC.out V).mono fun e w' ⟨h1,h2⟩=>(⟨h1,h2.symm⟩:e=Ending.returned (.int .i64 p)∧w'=V));rw[←hW];refine wp_region_still_tail 10 (by kernel_rfl) (by kernel_rfl) ?_;simp only[List.take_succ_cons,List.take_zero,List.drop_succ_cons,List.drop_zero];rw[←hV];clear hV hW hWV
 repeat still_step
 still_call hC.out
 repeat still_step
 still_call hS.out
 refine wpStill_nil ?_;clear k0 k1 k2 k3;go_wp2_with fail
 refine (HO.out _ _ (by simp) (by simp)).mono ?_;rintro e w3 ⟨rfl,rfl⟩;go_wp2_with fail
 go_ret;exact⟨rfl,HBV.out.alloc HBV.out.size _⟩
set_option maxHeartbeats 1000000 in
theorem iSameF_any (w:World) (v v':Value) (x y:AtomD) (h:RdAtom w v x) (h':RdAtom w v' y) :
  Calls Tryz.prog 211 #[v,v'] w (GaveBool w (decide (x=y))):=by
 have hb0:∀o o',Below w.heap.size w ((w.alloc o).alloc o'):=fun o o'=>(below_alloc w o).trans ((below_alloc _ o').mono (by simp))
 have HB0:=Lib.hid hb0;have HC:=Lib.hid (fun o o'=>iCmpF_any _ v v' x y (h.below (hb0 o o')) (h'.below (hb0 o o')));have HQ:=Lib.hid (cmpF_zero x y);obtain⟨a,n,c,rfl,hi,h⟩:=h;obtain⟨a',n',c',rfl,hi',h'⟩:=h';generalize x.1=r at *;generalize y.1=r' at *;generalize cmpF x y=z at *;generalize decide (x=y)=d at *;clear h h' hi hi' hb0;go_enter Tryz.func211,Tryz.ntmps211
 go_wp2_with fail
 refine (HC.out _ _).mono ?_;rintro e w3 ⟨rfl,hb⟩;have HB:=Lib.hid (bnext (HB0.out _ _) hb);clear hb;go_wp2_with fail
 go_ret;exact⟨ret_b (by rw[←HQ.out];rfl),HB.out⟩
end Go.Proofs.YtpedpbbiamhgdaaGreatDoor
