import Derived.Test.YtpedpbbiamhgdaaGreatDoorI5math
import Derived.Test.YtpedpbbiamhgdaaGreatDoorS6all
import Derived.Test.YtpedpbbiamhgdaaGreatDoorIcAll
import Derived.StillTailTactics
import Derived.Lib.SliceRun
import Derived.Test.YtpedpbbiamhgdaaGreatDoorI5fd
import Derived.Test.YtpedpbbiamhgdaaGreatDoorShelf
import Derived.Shelf.SlSortCmp.NoneTotal
namespace Go.Proofs.YtpedpbbiamhgdaaGreatDoor
open Go.RowKit
set_option linter.unusedVariables false
theorem lessB_irr (l:List Int):lessB l l=false:=by
 rw[lessB_end (fun j _ _=>rfl)];simp
def StrictL (l:List (List Int)):Prop:=l.Pairwise (fun a b=>lessB a b=true)
def AscL (l:List (List Int)):Prop:=l.Pairwise (fun a b=>lessB b a=false)
theorem lessB_asymm {a b:List Int} (h:lessB a b=true):lessB b a=false:=by
 cases h2:lessB b a
 ·rfl
 ·have:=lessB_trans _ _ _ h h2;rw[lessB_irr] at this;cases this
theorem lessB_ntrans {a b c:List Int} (h1:lessB b a=false) (h2:lessB c b=false):lessB c a=false:=by
 cases h3:lessB c a
 ·rfl
 ·cases h4:lessB a b
  ·obtain rfl:=lessB_tri _ _ h4 h1;rw[h2] at h3;cases h3
  ·have:=lessB_trans _ _ _ h3 h4;rw[h2] at this;cases this
theorem StrictL.asc {l:List (List Int)} (h:StrictL l):AscL l:=h.imp (fun h=>lessB_asymm h)
theorem StrictL.nodup {l:List (List Int)} (h:StrictL l):l.Nodup:=h.imp (fun h e=>by rw[e,lessB_irr] at h;cases h)
theorem AscL.strict {l:List (List Int)} (h:AscL l) (hn:l.Nodup):StrictL l:=by
 have:l.Pairwise (fun a b=>lessB b a=false∧a≠b):=List.Pairwise.and h hn;refine this.imp (fun {a b} ⟨h1,h2⟩=>?_)
 cases h3:lessB a b
 ·exact absurd (lessB_tri _ _ h3 h1) h2
 ·rfl
theorem asc_unique {l l':List (List Int)} (h:AscL l) (h':AscL l') (hp:l.Perm l'):l=l':=
 List.Perm.eq_of_pairwise (le:=fun a b=>lessB b a=false) (fun a b _ _ h1 h2=>lessB_tri _ _ h2 h1) h h' hp
theorem strict_unique {l l':List (List Int)} (h:StrictL l) (h':StrictL l') (hm:∀x,x∈l↔x∈l'):l=l':=
 asc_unique h.asc h'.asc ((List.perm_ext_iff_of_nodup h.nodup h'.nodup).2 hm)
theorem getD_mem_of {l:List (List Int)} {i:Nat} (h:i<l.length):l.getD i []∈l:=by
 rw[List.getD_eq_getElem?_getD,List.getElem?_eq_getElem h];exact List.getElem_mem h
theorem AscL.at {l:List (List Int)} (h:AscL l) {i j:Nat} (hij:i≤j) (hj:j<l.length):lessB (l.getD j []) (l.getD i [])=false:=by
 rcases Nat.lt_or_ge i j with h1|h1
 ·have:=List.pairwise_iff_getElem.1 h i j (by omega) hj h1;rw[List.getD_eq_getElem?_getD,List.getD_eq_getElem?_getD,List.getElem?_eq_getElem hj,List.getElem?_eq_getElem (by omega:i<l.length)];exact this
 ·obtain rfl:i=j:=by omega
  exact lessB_irr _
theorem mem_take_at {l:List (List Int)} {k:Nat} {x:List Int} (h:x∈l.take k):∃i,i<k∧i<l.length∧l.getD i []=x:=by
 obtain⟨i,hi⟩:=List.mem_iff_getElem?.1 h;have hl:=(List.getElem?_eq_some_iff.1 hi).1;simp at hl;rw[List.getElem?_take_of_lt (by omega)] at hi;exact⟨i,by omega,by omega,by rw[List.getD_eq_getElem?_getD,hi];rfl⟩
theorem mem_drop_at {l:List (List Int)} {k:Nat} {x:List Int} (h:x∈l.drop k):∃i,k≤i∧i<l.length∧l.getD i []=x:=by
 obtain⟨i,hi⟩:=List.mem_iff_getElem?.1 h;have hl:=(List.getElem?_eq_some_iff.1 hi).1;simp at hl;rw[List.getElem?_drop] at hi;exact⟨k+i,by omega,by omega,by rw[List.getD_eq_getElem?_getD,hi];rfl⟩
theorem posK_cut {x:List Int} {out:List (List Int)} (h:AscL out):(∀y∈out.take (posK x out out.length),lessB x y=false)∧(∀y∈out.drop (posK x out out.length),lessB x y=true):=by
 have hle:=posK_le x out out.length;constructor
 ·intro y hy;obtain⟨i,h1,h2,rfl⟩:=mem_take_at hy;have h3:=posK_stop (x:=x) (out:=out) (m:=out.length) (by omega);exact lessB_ntrans (h.at (i:=i) (j:=posK x out out.length-1) (by omega) (by omega)) h3
 ·intro y hy;obtain⟨i,h1,h2,rfl⟩:=mem_drop_at hy;exact posK_down (m:=out.length) (i+1) (by omega) (by omega)
theorem insAt_perm {α:Type} (k:Nat) (x:α) (l:List α):(insAt k x l).Perm (x::l):=by
 unfold insAt;have:=@List.perm_middle α x (l.take k) (l.drop k)
 rwa [List.take_append_drop] at this
theorem ins_asc {x:List Int} {out:List (List Int)} (h:AscL out):AscL (insAt (posK x out out.length) x out):=by
 obtain⟨h1,h2⟩:=posK_cut (x:=x) h;unfold AscL insAt;rw[List.pairwise_append];have ht:AscL (out.take (posK x out out.length)++out.drop (posK x out out.length)):=by rw[List.take_append_drop];exact h
 unfold AscL at ht;rw[List.pairwise_append] at ht;refine⟨ht.1,List.pairwise_cons.2 ⟨fun y hy=>lessB_asymm (h2 y hy),ht.2.1⟩,fun a ha b hb=>?_⟩;rcases List.mem_cons.1 hb with rfl|hb
 ·exact h1 a ha
 ·exact ht.2.2 a ha b hb
theorem sortStep_asc {once:Bool} {x:List Int} {out:List (List Int)} (h:AscL out):AscL (sortStep once out x):=by
 unfold sortStep;split
 ·exact h
 ·exact ins_asc h
theorem sortL_asc (l:List (List Int)) (once:Bool):AscL (sortL l once):=by
 have key:∀(m out:List (List Int)),AscL out→AscL (m.foldl (sortStep once) out):=by
  intro m
  induction m with
  |nil=>intro out h;exact h
  |cons x m ih=>intro out h;exact ih _ (sortStep_asc h)
 exact key l [] List.Pairwise.nil
theorem step_once_mem {x:List Int} {out:List (List Int)} (y:List Int):y∈sortStep true out x↔y=x∨y∈out:=by
 unfold sortStep
 split
 ·rename_i h
  simp only[Bool.true_and,Bool.and_eq_true,decide_eq_true_eq] at h;refine⟨fun h=>.inr h,fun h5=>h5.elim (fun e=>?_) id⟩;rw[e,←h.2];exact getD_mem_of (by have:=posK_le x out out.length;omega)
 ·rw[(insAt_perm _ _ _).mem_iff,List.mem_cons]
theorem step_once_nodup {x:List Int} {out:List (List Int)} (ha:AscL out) (hn:out.Nodup):(sortStep true out x).Nodup:=by
 unfold sortStep
 split
 ·exact hn
 ·rename_i h
  rw[(insAt_perm _ _ _).nodup_iff,List.nodup_cons];refine⟨fun hx=>h ?_,hn⟩;obtain⟨h1,h2⟩:=posK_cut (x:=x) ha;have hle:=posK_le x out out.length;rw[←List.take_append_drop (posK x out out.length) out] at hx
  have hx1:x∈out.take (posK x out out.length):=by
   rcases List.mem_append.1 hx with h5|h5
   ·exact h5
   ·have:=h2 x h5;rw[lessB_irr] at this;cases this
  obtain⟨i,h5,h6,h7⟩:=mem_take_at hx1;have h8:=posK_stop (x:=x) (out:=out) (m:=out.length) (by omega);have h9:=ha.at (i:=i) (j:=posK x out out.length-1) (by omega) (by omega);rw[h7] at h9;simp only[Bool.true_and,Bool.and_eq_true,decide_eq_true_eq];exact⟨by omega,lessB_tri _ _ h9 h8⟩
theorem sortL_once (l:List (List Int)):StrictL (sortL l true)∧∀y,y∈sortL l true↔y∈l:=by
 have key:∀(m out:List (List Int)),AscL out→out.Nodup→(m.foldl (sortStep true) out).Nodup∧∀y,y∈m.foldl (sortStep true) out↔y∈out∨y∈m:=by
  intro m
  induction m with
  |nil=>intro out h hn;exact⟨hn,fun y=>by simp⟩
  |cons x m ih=>
   intro out h hn;obtain⟨h1,h2⟩:=ih (sortStep true out x) (sortStep_asc h) (step_once_nodup h hn);refine⟨h1,fun y=>?_⟩;rw[List.foldl_cons,h2 y,step_once_mem,List.mem_cons];constructor
   ·rintro ((h|h)|h)
    ·exact .inr (.inl h)
    ·exact .inl h
    ·exact .inr (.inr h)
   ·rintro (h|h|h)
    ·exact .inl (.inr h)
    ·exact .inl (.inl h)
    ·exact .inr h
 obtain⟨h1,h2⟩:=key l [] List.Pairwise.nil List.Pairwise.nil;exact⟨(sortL_asc l true).strict h1,fun y=>(h2 y).trans (by simp)⟩
theorem sortL_eq {l l':List (List Int)} (h:StrictL l') (hm:∀y,y∈l'↔y∈l):l'=sortL l true:=
 strict_unique h (sortL_once l).1 (fun y=>(hm y).trans ((sortL_once l).2 y).symm)
def compTo (l:List (List Int)):Nat→List (List Int)
 |0=>[]
 |i+1=>if i=0∨l.getD i []≠l.getD (i-1) [] then compTo l i++[l.getD i []] else compTo l i
theorem compTo_keep {l:List (List Int)} {i:Nat} (h:l.getD i []≠l.getD (i-1) []):compTo l (i+1)=compTo l i++[l.getD i []]:=by
 show (if _ then _ else _)=_;rw[if_pos (.inr h)]
theorem compTo_skip {l:List (List Int)} {i:Nat} (h0:0<i) (h:l.getD i []=l.getD (i-1) []):compTo l (i+1)=compTo l i:=by
 show (if _ then _ else _)=_;rw[if_neg (by rintro (h5|h5);exact absurd h5 (by omega);exact h5 h)]
theorem compTo_all {l:List (List Int)} {i:Nat} (hi:i≤l.length) (h:∀j,0<j→j<i→l.getD j []≠l.getD (j-1) []):compTo l i=l.take i:=by
 induction i with
 |zero=>simp[compTo]
 |succ i ih=>
  have e:compTo l (i+1)=compTo l i++[l.getD i []]:=by
   show (if _ then _ else _)=_;rcases Nat.eq_zero_or_pos i with h0|h0
   ·rw[if_pos (.inl h0)]
   ·rw[if_pos (.inr (h i h0 (by omega)))]
  rw[e,ih (by omega) (fun j h1 h2=>h j h1 (by omega)),List.take_succ_eq_append_getElem (by omega),List.getD_eq_getElem?_getD,List.getElem?_eq_getElem (by omega)];rfl
theorem compTo_strict {l:List (List Int)} (h:AscL l):∀i,i≤l.length→StrictL (compTo l i)∧(∀y,y∈compTo l i↔∃j,j<i∧l.getD j []=y)∧(∀y∈compTo l i,0<i→lessB (l.getD (i-1) []) y=false):=by
 intro i
 induction i with
 |zero=>intro _;exact⟨List.Pairwise.nil,fun y=>by simp[compTo],fun y hy=>by simp[compTo] at hy⟩
 |succ i ih=>
  intro hi;obtain⟨h1,h2,h3⟩:=ih (by omega)
  have hlast:∀y∈compTo l i,lessB (l.getD i []) y=false:=fun y hy=>by
   obtain⟨j,hj,rfl⟩:=(h2 y).1 hy;exact h.at (by omega) (by omega)
  unfold compTo
  split
  ·rename_i hc
   refine⟨?_,fun y=>?_,fun y hy _=>?_⟩
   ·unfold StrictL;rw[List.pairwise_append];refine⟨h1,List.pairwise_singleton _ _,fun a ha b hb=>?_⟩;obtain rfl:=List.mem_singleton.1 hb;obtain⟨j,hj,rfl⟩:=(h2 a).1 ha
    cases h5:lessB (l.getD j []) (l.getD i [])
    ·have h6:=lessB_tri _ _ h5 (h.at (i:=j) (j:=i) (by omega) (by omega));exfalso;rcases hc with hc|hc
     ·omega
     ·apply hc;have h7:=h.at (i:=j) (j:=i-1) (by omega) (by omega);have h8:=h.at (i:=i-1) (j:=i) (by omega) (by omega);rw[h6] at h7;exact lessB_tri _ _ h8 h7
    ·rfl
   ·rw[List.mem_append,h2 y,List.mem_singleton];constructor
    ·rintro (⟨j,hj,e⟩|e)
     ·exact⟨j,by omega,e⟩
     ·exact⟨i,by omega,e.symm⟩
    ·rintro⟨j,hj,e⟩;rcases Nat.lt_or_ge j i with h5|h5
     ·exact .inl ⟨j,h5,e⟩
     ·obtain rfl:j=i:=by omega
      exact .inr e.symm
   ·rw[Nat.add_sub_cancel];rcases List.mem_append.1 hy with h5|h5
    ·exact hlast y h5
    ·rw[List.mem_singleton.1 h5];exact lessB_irr _
  ·rename_i hc
   have hc':i≠0∧l.getD i []=l.getD (i-1) []:=by
    constructor
    ·intro e;exact hc (.inl e)
    ·exact Classical.byContradiction (fun e=>hc (.inr e))
   refine⟨h1,fun y=>?_,fun y hy _=>by rw[Nat.add_sub_cancel];exact hlast y hy⟩;rw[h2 y];constructor
   ·rintro⟨j,hj,e⟩;exact⟨j,by omega,e⟩
   ·rintro⟨j,hj,e⟩;rcases Nat.lt_or_ge j i with h5|h5
    ·exact⟨j,h5,e⟩
    ·obtain rfl:j=i:=by omega
     exact⟨j-1,by omega,by rw[←hc'.2];exact e⟩
theorem compTo_sort {l l':List (List Int)} (h:AscL l') (hp:l'.Perm l):compTo l' l'.length=sortL l true:=by
 obtain⟨h1,h2,_⟩:=compTo_strict h l'.length (Nat.le_refl _);refine sortL_eq h1 (fun y=>?_);rw[h2 y,←hp.mem_iff];constructor
 ·rintro⟨j,hj,rfl⟩;exact getD_mem_of hj
 ·intro hy;obtain⟨j,hj⟩:=List.mem_iff_getElem?.1 hy;exact⟨j,(List.getElem?_eq_some_iff.1 hj).1,by rw[List.getD_eq_getElem?_getD,hj];rfl⟩
end Go.Proofs.YtpedpbbiamhgdaaGreatDoor
namespace Go.Proofs.YtpedpbbiamhgdaaGreatDoor
open Go Go.Sort Go.RowKit
set_option linter.unusedVariables false
theorem eqAt_of {α:Type} {l l':List α} (hl:l.length=l'.length) (h:∀(j:Nat) (x x':α),j<l.length→l[j]?=some x→l'[j]?=some x'→x=x'):l=l':=by
 apply List.ext_getElem? ;intro j;rcases Nat.lt_or_ge j l.length with hj|hj
 ·rw[List.getElem?_eq_getElem hj,List.getElem?_eq_getElem (by omega)];rw[h j _ _ hj (List.getElem?_eq_getElem hj) (List.getElem?_eq_getElem (by omega))]
 ·rw[List.getElem?_eq_none hj,List.getElem?_eq_none (by omega)]
set_option maxHeartbeats 4000000 in
theorem iEqFunc6_any (w:World) (v v':Value) (l l':List (List Int)) (h:RdIntSS w v l) (h':RdIntSS w v' l') :
  Calls Tryz.prog 56 #[v,v',.func (.func 58) #[] #[]] w (GaveBool w (decide (l=l'))):=by
 obtain⟨a,n,c,rfl,h⟩:=h;obtain⟨a',n',c',rfl,h'⟩:=h';obtain⟨hl,hn,hm,hcell⟩:=h.at
 obtain⟨hl',hn',hm',hcell'⟩:=h'.at
 unfold maxLen at hm hm';have HC:=Lib.hid hcell;have HC':=Lib.hid hcell';have HL:=Lib.hid hl;have HL':=Lib.hid hl';have hS:=Lib.hid (fun w v v' x y a b=>sEqI_any w v v' x y a b);clear h h' hcell hcell' hl hl';by_cases hne:n=n'
 ·subst hne;go_enter Tryz.func56,Tryz.ntmps56
  go_wp2_with fail
  go_loopw [17] (fun iv wr=>∃i:Nat,i≤n∧iv=.int .i64 i∧Below w.heap.size w wr∧Hid (∀(j:Nat) (x x':List Int),j<i→l[j]?=some x→l'[j]?=some x'→x=x')) (fun iv _=>n-(intOf iv).toNat)
  case atStart=>exact⟨0,by omega,rfl,Below.refl _ _,fun j x x' hj=>by omega⟩
  case round=>
   obtain⟨i,hi,rfl,hb,HE⟩:=hrel;have HB:=Lib.hid hb;by_cases hlt:i<n
   ·obtain⟨b,off,rfl,hbw,hc⟩:=HC.out (by omega);obtain⟨b',off',rfl,hbw',hc'⟩:=HC'.out (by omega);obtain⟨e,hd⟩:∃e,l[i]?=some e:=⟨l[i]'(by rw[HL.out];exact hlt),List.getElem?_eq_getElem (by rw[HL.out];exact hlt)⟩
    obtain⟨e',hd'⟩:∃e,l'[i]?=some e:=⟨l'[i]'(by rw[HL'.out];exact hlt),List.getElem?_eq_getElem (by rw[HL'.out];exact hlt)⟩
    obtain⟨ea,em,ec,c0,hints⟩:=intsAt (n:=n) hc i e hd;obtain⟨ea',em',ec',c0',hints'⟩:=intsAt (n:=n) hc' i e' hd';have k0:=cellk hb c0;have k0':=cellk hb c0';have HD:=Lib.hid hd;have HD':=Lib.hid hd';have hi0:(0:Int)≤i:=by omega
    have hi1:(i:Int)<n:=by omega
    have hcall:=Lib.hid (hS.out wr (.slice ea em ec) (.slice ea' em' ec') e e' (hints.below hb) (hints'.below hb));clear hc hc' hbw hbw' hb hd hd' hints hints' c0 c0';by_cases heq:e=e'
    ·have HQ:=Lib.hid heq;rw[decide_eq_true heq] at hcall;clear heq;go_wp2_with fail
     refine (hcall.out).mono ?_;rintro e5 w1 ⟨rfl,hb1⟩;have HB1:=Lib.hid (bnext HB.out hb1);clear hb1;go_wp2_with fail
     refine⟨⟨i+1,by omega,by simp,HB1.out,fun j x x' hj h5 h6=>?_⟩,by simp[intOf];omega⟩;rcases Nat.lt_or_ge j i with h7|h7
     ·exact HE.out j x x' h7 h5 h6
     ·obtain rfl:j=i:=by omega
      rw[HD.out] at h5;rw[HD'.out] at h6
      cases h5;cases h6;exact HQ.out
    ·have HQ:Hid (decide (l=l')=false):=decide_eq_false (fun e=>heq (by rw[e] at HD;exact Option.some.inj (HD.out.symm.trans HD'.out)));rw[decide_eq_false heq] at hcall;clear heq;go_wp2_with fail
     refine (hcall.out).mono ?_;rintro e5 w1 ⟨rfl,hb1⟩;have HB1:=Lib.hid (bnext HB.out hb1);clear hb1;go_wp2_with fail
     go_ret;exact⟨ret_b HQ.out.symm,HB1.out⟩
   ·obtain rfl:i=n:=by omega
    have HQ:Hid (decide (l=l')=true):=decide_eq_true (eqAt_of (by rw[HL.out,HL'.out]) (fun j x x' hj h5 h6=>HE.out j x x' (by rw[←HL.out];exact hj) h5 h6));clear hb;go_wp2_with fail
    go_ret;exact⟨ret_b HQ.out.symm,HB.out⟩
 ·have HQ:Hid (decide (l=l')=false):=decide_eq_false (fun e=>hne (by rw[←HL.out,←HL'.out,e]));have q:((n:Int) != n')=true:=by simp;omega
  clear hne;go_enter Tryz.func56,Tryz.ntmps56
  go_wp2_with fail
  go_ret;exact⟨ret_b HQ.out.symm,Below.refl _ _⟩
def RdEls (w0:World) (cs:List Value) (l:List (List Int)):Prop:=cs.length=l.length∧∀(j:Nat) (d:List Int),l[j]?=some d→∃(a:Option Addr) (n c:Nat),cs[j]?=some (Value.slice a n c)∧Ints w0 (Value.slice a n c) d
theorem RdEls.set {w0:World} {cs:List Value} {l:List (List Int)} (h:RdEls w0 cs l) (k:Nat) {a:Option Addr} {n c:Nat} {d:List Int} (hd:Ints w0 (.slice a n c) d):RdEls w0 (cs.set k (.slice a n c)) (l.set k d):=by
 refine⟨by simp[h.1],fun j x hx=>?_⟩;by_cases e:k=j
 ·subst e
  have hk:k<l.length:=by
   have:=(List.getElem?_eq_some_iff.1 hx).1;simpa using this
  rw[List.getElem?_set_self hk] at hx
  cases hx;exact⟨a,n,c,List.getElem?_set_self (by rw[h.1];exact hk),hd⟩
 ·rw[List.getElem?_set_ne e] at hx ⊢;exact h.2 j x hx
theorem RdEls.take {w0:World} {cs:List Value} {l:List (List Int)} (h:RdEls w0 cs l) (k:Nat):RdEls w0 (cs.take k) (l.take k):=by
 refine⟨by simp[h.1],fun j x hx=>?_⟩
 have hj:j<k:=by
  have:=(List.getElem?_eq_some_iff.1 hx).1;simp at this;omega
 rw[List.getElem?_take_of_lt hj] at hx ⊢;exact h.2 j x hx
theorem rdOfEls {E:TypeId} {w0 w:World} {g n cap:Nat} {cs:List Value} {l:List (List Int)} (h1:BuiltC E 1 w0 w (.slice (some ⟨g,0,none⟩) n cap) n cs) (h2:RdEls w0 cs l):RdIntSS w (.slice (some ⟨g,0,none⟩) n cap) l:=by
 have hlen:=h1.len;have hl2:=h2.1;rcases h1.form with⟨e,_⟩|⟨g',cap',e,h3,h4⟩
 ·cases e
 ·cases e;refine⟨_,_,_,rfl,?_⟩;by_cases h0:n=0
  ·subst h0;have hnil:l=[]:=List.eq_nil_of_length_eq_zero (by omega);subst hnil;exact⟨_,_,_,rfl,rfl,Nat.zero_le _,h4,fun h=>by omega⟩
  ·refine⟨_,_,_,rfl,by omega,h3,h4,fun _=>⟨g,0,rfl,h1.lt.2,fun j hj=>?_⟩⟩;obtain⟨a,m,c,e1,e2⟩:=h2.2 j l[j] (List.getElem?_eq_getElem hj);refine⟨[.slice a m c],rfl,fun e he=>?_,a,m,c,rfl,e2.below h1.2⟩;obtain rfl:e=0:=by omega
   rw[Nat.zero_add,Nat.mul_one,Nat.add_zero,h1.cell _ (by omega)];exact e1
theorem BuiltC.setCells {E:TypeId} {w0:World} {g n cap:Nat}:∀(vs:List Value) (o:Nat) (w:World) (cs:List Value),BuiltC E 1 w0 w (.slice (some ⟨g,0,none⟩) n cap) n cs→∃cs',BuiltC E 1 w0 (w.setCells g o vs) (.slice (some ⟨g,0,none⟩) n cap) n cs'∧cs'.take o=cs.take o
 |[],o,w,cs,h=>⟨cs,h,rfl⟩
 |v::vs,o,w,cs,h=>by
  obtain⟨cs',h1,h2⟩:=BuiltC.setCells vs (o+1) _ _ (h.store o v);refine⟨cs',h1,?_⟩;have h3:=congrArg (List.take o) h2;rw[List.take_take,List.take_take,Nat.min_eq_left (by omega)] at h3;rw[h3,List.take_set,List.set_eq_of_length_le (by simp;omega)]
theorem BuiltC.short {E:TypeId} {size:Nat} {W w:World} {g n cap m:Nat} {cs:List Value} (h:BuiltC E size W w (.slice (some ⟨g,0,none⟩) n cap) n cs) (hm:m≤n):BuiltC E size W w (.slice (some ⟨g,0,none⟩) m cap) m (cs.take (m*size)):=by
 have hlen:=h.len;have hle:m*size≤n*size:=Nat.mul_le_mul_right _ hm;rcases h.1.2 with⟨h1,_⟩|⟨g',cap',cur,he,hbase,hg,hc1,hc2,hc3,hc4⟩
 ·cases h1
 ·cases he;refine⟨⟨by simp;omega,.inr ⟨g,cap,cur,rfl,hbase,hg,by omega,hc2,hc3,?_⟩⟩,h.2⟩;rw[←hc4,List.take_take,Nat.min_eq_left hle]
theorem set_mid {l:List (List Int)} {kk:Nat} {A:List (List Int)} (hA:A.length=kk) (hk:kk<l.length) (x:List Int):(A++l.drop kk).set kk x=(A++[x])++l.drop (kk+1):=by
 rw[List.set_append,if_neg (by omega),hA,Nat.sub_self,List.drop_eq_getElem_cons hk,List.set_cons_zero,List.append_assoc];rfl
theorem mid_get {l:List (List Int)} {kk j:Nat} {A:List (List Int)} (hA:A.length=kk) (hj:kk≤j):(A++l.drop kk)[j]?=l[j]?:=by
 rw[List.getElem?_append_right (by omega),List.getElem?_drop,hA,show kk+(j-kk)=j by omega]
theorem getD_of {l:List (List Int)} {j:Nat} {d:List Int} (h:l[j]?=some d):l.getD j []=d:=by rw[List.getD_eq_getElem?_getD,h];rfl
set_option maxHeartbeats 8000000 in
theorem iComp6_any (w0 w:World) (g n cap:Nat) (cs:List Value) (l:List (List Int)) (hB:BuiltC 24 1 w0 w (.slice (some ⟨g,0,none⟩) n cap) n cs) (hR:RdEls w0 cs l) :
  Calls Tryz.prog 120 #[.slice (some ⟨g,0,none⟩) n cap,.func (.func 58) #[] #[]] w (fun e w'=>∃m cs',e=.returned (.slice (some ⟨g,0,none⟩) m cap)∧BuiltC 24 1 w0 w' (.slice (some ⟨g,0,none⟩) m cap) m cs'∧RdEls w0 cs' (compTo l n)):=by
 have hcap:n≤cap∧cap≤9223372036854775807:=by
  rcases hB.form with⟨e,_⟩|⟨_,_,e,h3,h4⟩
  ·cases e
  ·cases e;unfold maxLen at h4;exact⟨h3,by omega⟩
 have hln:l.length=n:=by rw[←hR.1,hB.len];omega
 have HLn:=Lib.hid hln;have HB:=Lib.hid hB;have HR:=Lib.hid hR;have hS:=Lib.hid (fun w v v' x y a b=>sEqI_any w v v' x y a b);have HALL:Hid (∀i,i≤n→(∀j,0<j→j<i→l.getD j []≠l.getD (j-1) [])→compTo l i=l.take i):=fun i hi h=>compTo_all (by omega) h
 clear hB hR hln;by_cases h2:n<2
 ·go_enter Tryz.func120,Tryz.ntmps120
  go_wp2_with fail
  go_ret;refine⟨n,cs,rfl,HB.out,?_⟩;rw[HALL.out n (Nat.le_refl _) (fun j h5 h6=>by omega),List.take_of_length_le (by rw[HLn.out];exact Nat.le_refl _)];exact HR.out
 ·go_enter Tryz.func120,Tryz.ntmps120
  go_wp2_with fail
  go_loopw [5] (fun iv wr=>∃k:Nat,1≤k∧k≤n∧iv=.int .i64 k∧Below w.heap.size w wr∧Hid (∀j,0<j→j<k→l.getD j []≠l.getD (j-1) [])) (fun iv _=>n-(intOf iv).toNat)
  case atStart=>exact⟨1,by omega,by omega,rfl,Below.refl _ _,fun j h5 h6=>by omega⟩
  case round=>
   obtain⟨k,hk1,hk,rfl,hb,HE⟩:=hrel;have HB1:=Lib.hid (HB.out.grow hb);by_cases hlt:k<n
   ·obtain⟨d,hd⟩:∃e,l[k]?=some e:=⟨l[k]'(by rw[HLn.out];exact hlt),List.getElem?_eq_getElem (by rw[HLn.out];exact hlt)⟩
    obtain⟨d0,hd0⟩:∃e,l[k-1]?=some e:=⟨l[k-1]'(by rw[HLn.out];omega),List.getElem?_eq_getElem (by rw[HLn.out];omega)⟩
    obtain⟨a,m,c,e1,hi1⟩:=HR.out.2 k d hd;obtain⟨a0,m0,c0,e0,hi0⟩:=HR.out.2 (k-1) d0 hd0;have k1:=cell_regrown (w:=wr) ((HB1.out.cell k (by omega)).trans e1);have k0:=cell_regrown (w:=wr) ((HB1.out.cell (k-1) (by omega)).trans e0);have HD:=Lib.hid (getD_of hd);have HD0:=Lib.hid (getD_of hd0);have hcall:=Lib.hid (fun dn os=>hS.out (grow (redrawn wr dn) os) (.slice a m c) (.slice a0 m0 c0) d d0 (hi1.below (HB1.out.grow (below_regrown wr dn os)).2) (hi0.below (HB1.out.grow (below_regrown wr dn os)).2));have HBW:=Lib.hid hb;have hk1i:(1:Int)≤k:=by omega
    have hki:(k:Int)<n:=by omega
    clear hd hd0 hi1 hi0 e1 e0 hb;by_cases heq:d=d0
    ·have HQ:=Lib.hid heq;rw[decide_eq_true heq] at hcall;clear heq;go_wp2_with fail
     refine wp_region_quiet_below (by kernel_rfl) (by kernel_rfl) ?_
     repeat (any_goals (first|go_big_quiet_step ((go_at_call 58;exact Calls.regrown_of (hcall.out _ _)))|quiet_step ((go_at_call 58;exact Calls.regrown_of (hcall.out _ _)))))
     refine wpQuiet_nil ?_;intro _ hw';obtain⟨⟨dq,osq⟩,hw''⟩:=hw';subst hw'';go_wp2_with fail
     have HBq:=Lib.hid (bnext HBW.out (below_regrown wr dq osq))
     have HKA:Hid (compTo l (k+1)=l.take k):=by
      unfold Hid;rw[compTo_skip (by omega) (by rw[HD.out,HD0.out,HQ.out]),HALL.out k (by omega) HE.out]
     generalize grow (redrawn wr dq) osq=wq at *
     go_loopw [5,7] (fun s5 s7 wr=>∃(kk k2:Nat) (cur:List Value),s5=.int .i64 kk∧s7=.int .i64 k2∧1≤k2∧k+k2≤n∧kk<k+k2∧Hid ((compTo l (k+k2)).length=kk)∧BuiltC 24 1 w0 wr (.slice (some ⟨g,0,none⟩) n cap) n cur∧RdEls w0 cur (compTo l (k+k2)++l.drop kk)) (fun s5 s7 _=>n-(intOf s7).toNat)
     case atStart=>
      have e5:compTo l (k+1)++l.drop k=l:=by rw[HKA.out,List.take_append_drop]
      refine⟨k,1,cs,rfl,rfl,by omega,by omega,by omega,?_,HB.out.grow HBq.out,by rw[e5];exact HR.out⟩;unfold Hid;rw[HKA.out,List.length_take,HLn.out];omega
     case round=>
      obtain⟨kk,k2,cur,rfl,rfl,h1,hle,hkk,HLc,hBc,hRc⟩:=hrel;have HBc:=Lib.hid hBc;have HRc:=Lib.hid hRc;clear hBc hRc;by_cases hlt2:k+k2<n
      ·obtain⟨d2,hd2⟩:∃e,l[k+k2]?=some e:=⟨l[k+k2]'(by rw[HLn.out];exact hlt2),List.getElem?_eq_getElem (by rw[HLn.out];exact hlt2)⟩
       obtain⟨d3,hd3⟩:∃e,l[k+k2-1]?=some e:=⟨l[k+k2-1]'(by rw[HLn.out];omega),List.getElem?_eq_getElem (by rw[HLn.out];omega)⟩
       obtain⟨a2,m2,c2,e2,hi2⟩:=HRc.out.2 (k+k2) d2 (by rw[mid_get HLc.out (by omega)];exact hd2);obtain⟨a3,m3,c3,e3,hi3⟩:=HRc.out.2 (k+k2-1) d3 (by rw[mid_get HLc.out (by omega)];exact hd3);have hHi2:=Lib.hid hi2;have k2c:=cell_regrown (w:=wr) ((HBc.out.cell (k+k2) (by omega)).trans e2);have k3c:=cell_regrown (w:=wr) ((HBc.out.cell (k+k2-1) (by omega)).trans e3);have K2c:=Lib.hid ((HBc.out.cell (k+k2) (by omega)).trans e2);rw[show k+k2-1=k+(k2-1) by omega] at k3c;have HD2:=Lib.hid (getD_of hd2);have HD3:=Lib.hid (getD_of hd3);have hcall2:=Lib.hid (fun dn os=>hS.out (grow (redrawn wr dn) os) (.slice a2 m2 c2) (.slice a3 m3 c3) d2 d3 (hi2.below (HBc.out.grow (below_regrown wr dn os)).2) (hi3.below (HBc.out.grow (below_regrown wr dn os)).2));have hk2i:(1:Int)≤k2:=by omega
       have hk2n:(k:Int)+k2<n:=by omega
       have hk2m:(k2:Int)<(n:Int)-k:=by omega
       clear hd2 hd3 hi2 hi3 e2 e3 k1 k0 hcall;by_cases heq2:d2=d3
       ·have HQ2:=Lib.hid heq2;rw[decide_eq_true heq2] at hcall2;clear heq2;go_wp2_with fail
        refine wp_region_quiet_below (by kernel_rfl) (by kernel_rfl) ?_
        repeat (any_goals (first|go_big_quiet_step ((go_at_call 58;exact Calls.regrown_of (hcall2.out _ _)))|quiet_step ((go_at_call 58;exact Calls.regrown_of (hcall2.out _ _)))))
        refine wpQuiet_nil ?_;intro _ hw';obtain⟨⟨dq,osq⟩,hw''⟩:=hw';subst hw'';go_wp2_with fail
        have hBq2:=HBc.out.grow (below_regrown wr dq osq);refine⟨⟨kk,k2+1,cur,rfl,by simp,by omega,by omega,by omega,?_,hBq2,?_⟩,by simp[intOf];omega⟩
        ·unfold Hid;rw[show k+(k2+1)=(k+k2)+1 by omega,compTo_skip (by omega) (by rw[HD2.out,HD3.out,HQ2.out])];exact HLc.out
        ·rw[show k+(k2+1)=(k+k2)+1 by omega,compTo_skip (by omega) (by rw[HD2.out,HD3.out,HQ2.out])];exact HRc.out
       ·rw[decide_eq_false heq2] at hcall2;have HQ2:=Lib.hid heq2;clear heq2;go_wp2_with fail
        refine wp_region_quiet_below (by kernel_rfl) (by kernel_rfl) ?_
        repeat (any_goals (first|go_big_quiet_step ((go_at_call 58;exact Calls.regrown_of (hcall2.out _ _)))|quiet_step ((go_at_call 58;exact Calls.regrown_of (hcall2.out _ _)))))
        refine wpQuiet_nil ?_;intro _ hw';obtain⟨⟨dq,osq⟩,hw''⟩:=hw';subst hw'';have hBq2:=Lib.hid (HBc.out.grow (below_regrown wr dq osq));have k4:=k2c dq osq;have f4:=hBq2.out.frozen kk;obtain⟨a5,m5,c5,e5,_⟩:=HRc.out.2 kk (l[kk]'(by rw[HLn.out];omega)) (by rw[mid_get HLc.out (Nat.le_refl _)];exact List.getElem?_eq_getElem _);have k5:=(hBq2.out.cell kk (by omega)).trans e5;clear k2c k3c hcall2 e5;generalize grow (redrawn wr dq) osq=wq2 at *;go_wp2_with fail
        have hBq3:=hBq2.out.store kk (.slice a2 m2 c2)
        have hL5:compTo l (k+(k2+1))=compTo l (k+k2)++[d2]:=by
         rw[show k+(k2+1)=(k+k2)+1 by omega,compTo_keep (by rw[HD2.out,HD3.out];exact HQ2.out),HD2.out]
        refine⟨⟨kk+1,k2+1,cur.set kk (.slice a2 m2 c2),by simp,by simp,by omega,by omega,by omega,?_,hBq3,?_⟩,by simp[intOf];omega⟩
        ·unfold Hid;rw[hL5,List.length_append,HLc.out];rfl
        ·have:=HRc.out.set kk hHi2.out;rw[set_mid HLc.out (by rw[HLn.out];omega)] at this;rw[hL5];exact this
      ·obtain rfl:k2=n-k:=by omega
       have hkn:kk<n:=by omega
       have hkc:kk<cap:=by omega
       have hcl:∀ty,(Builtin.clear_ #[44] ty #[.slice (some ⟨g,kk,none⟩) (n-kk) (cap-kk)]).run Tryz.prog wr=.ok (.tuple #[]) (wr.setCells g kk (List.replicate (n-kk) (.slice none 0 0))):=
        fun ty=>Lib.run_clear_slice wr _ _ ty _ Tryz.underlying44 Tryz.zeroValue24 rfl rfl g kk _ _ (by omega) (fun j hj=>by
         rw[HBc.out.cell (kk+j) (by omega)];have:=HBc.out.len;rw[List.getElem?_eq_getElem (by omega)];rfl) (fun j hj=>HBc.out.frozen (kk+j))
       obtain⟨cs',hB5,hcs⟩:=BuiltC.setCells (List.replicate (n-kk) (.slice none 0 0)) kk wr cur HBc.out;have HB5:=Lib.hid hB5;clear hB5 k1 k0 hcall;go_wp2_with fail
       go_ret;have hB6:=HB5.out.short (m:=kk) (by omega);rw[Nat.mul_one,hcs] at hB6;refine⟨kk,_,rfl,hB6,?_⟩;have hR6:=HRc.out.take kk;rw[List.take_append_of_le_length (by rw[HLc.out];exact Nat.le_refl _),List.take_of_length_le (l:=compTo l (k+(n-k))) (by rw[HLc.out];exact Nat.le_refl _),show k+(n-k)=n by omega] at hR6;exact hR6
    ·rw[decide_eq_false heq] at hcall;have HQ:=Lib.hid heq;clear heq;go_wp2_with fail
     refine wp_region_quiet_below (by kernel_rfl) (by kernel_rfl) ?_
     repeat (any_goals (first|go_big_quiet_step ((go_at_call 58;exact Calls.regrown_of (hcall.out _ _)))|quiet_step ((go_at_call 58;exact Calls.regrown_of (hcall.out _ _)))))
     refine wpQuiet_nil ?_;intro _ hw';obtain⟨⟨dq,osq⟩,hw''⟩:=hw';subst hw'';go_wp2_with fail
     refine⟨⟨k+1,by omega,by omega,by simp,bnext HBW.out (below_regrown _ _ _),fun j h5 h6=>?_⟩,by simp[intOf];omega⟩;rcases Nat.lt_or_ge j k with h7|h7
     ·exact HE.out j h5 h7
     ·obtain rfl:j=k:=by omega
      rw[HD.out,HD0.out];exact HQ.out
   ·obtain rfl:k=n:=by omega
    go_wp2_with fail
    go_ret;refine⟨k,cs,rfl,HB1.out,?_⟩;rw[HALL.out k (Nat.le_refl _) HE.out,List.take_of_length_le (by rw[HLn.out];exact Nat.le_refl _)];exact HR.out
end Go.Proofs.YtpedpbbiamhgdaaGreatDoor
namespace Go.Proofs.YtpedpbbiamhgdaaGreatDoor
open Go Go.Sort Go.RowKit Go.Shelf Go.Lib
set_option linter.unusedVariables false
theorem onlyAt_sortWorld {α:Type} [Inhabited α] (enc:α→Value) (w:World) (g off m:Nat) (dk:Array α) (os:Array Obj):OnlyAt [g] w (sortWorld enc w g off m dk os):=by
 refine⟨rfl,rfl,rfl,?_,fun k hk hn=>?_⟩
 ·show w.heap.size≤((w.heap.modify g _)++os).size;simp
 ·show ((w.heap.modify g _)++os)[k]?=w.heap[k]?;rw[Array.getElem?_append_left (by simpa using hk),Array.getElem?_modify,if_neg (fun e=>hn (by simp[e]))]
theorem pairList {β:Type} {C:Value→β→Prop}:∀(bl:List β) (cs:List Value),cs.length=bl.length→(∀(j:Nat) (b:β),bl[j]?=some b→∃v,cs[j]?=some v∧C v b)→∃d:List {p:Value × β // C p.1 p.2},d.map (fun p=>p.1.1)=cs∧d.map (fun p=>p.1.2)=bl
 |[],[],_,_=>⟨[],rfl,rfl⟩
 |[],_::_,h,_=>by simp at h
 |_::_,[],h,_=>by simp at h
 |b::bl,v::cs,h,hel=>by
  obtain⟨d,h1,h2⟩:=pairList bl cs (by simpa using h) (fun j b hb=>by
   have:=hel (j+1) b (by simpa using hb);simpa using this)
  obtain⟨v',e,hc⟩:=hel 0 b rfl
  cases e;exact⟨⟨(v,b),hc⟩::d,by simp[h1],by simp[h2]⟩
theorem BuiltC.sorted {α:Type} [Inhabited α] {enc:α→Value} {E:TypeId} {w0 w:World} {g n cap:Nat} {cs:List Value} (h:BuiltC E 1 w0 w (.slice (some ⟨g,0,none⟩) n cap) n cs) (d d':Array α) (hH:Holds enc w g 0 d) (hd:d.size=n) (hd':d'.size=n) (m:Nat) (os:Array Obj) :
  BuiltC E 1 w0 (sortWorld enc w g 0 m d' os) (.slice (some ⟨g,0,none⟩) n cap) n (d'.toList.map enc):=by
 have ho:=onlyAt_sortWorld enc w g 0 m d' os;have hlt:=h.lt;have hbel:Below w0.heap.size w0 (sortWorld enc w g 0 m d' os):=OnlyAt.below h.2 ho (by simp;exact hlt.1);refine⟨⟨by simp[hd'],?_⟩,hbel⟩;rcases h.1.2 with⟨e,_⟩|⟨g',cap',cur,e,hbase,hg,hc1,hc2,hc3,hc4⟩
 ·cases e
 ·cases e
  have hheap:(sortWorld enc w g 0 m d' os).heap[g]?=some (.cells (putCells enc 0 d' cur) E (0,0)):=by
   show ((w.heap.modify g _)++os)[g]?=_;rw[Array.getElem?_append_left (by simpa using hlt.2),Array.getElem?_modify,if_pos rfl,hg];rfl
  refine .inr ⟨g,cap,putCells enc 0 d' cur,rfl,hbase,hheap,hc1,hc2,by simpa[putCells] using hc3,?_⟩;apply List.ext_getElem?;intro j;rcases Nat.lt_or_ge j n with hj|hj
  ·have hcell:=(holds_sortWorld enc w g 0 m d d' os hlt.2 hH (by omega) j (by omega)).1;rw[List.getElem?_take_of_lt (by omega),List.getElem?_map,Array.getElem?_toList,Array.getElem?_toList];rw[Nat.zero_add] at hcell
   have h5:(sortWorld enc w g 0 m d' os).cell? ⟨g,j,none⟩=(putCells enc 0 d' cur)[j]?:=by
    simp[World.cell?,hheap]
   rw[←h5,hcell,getElem!_pos d' j (by omega),Array.getElem?_eq_getElem (by omega)];rfl
  ·rw[List.getElem?_eq_none (by simp;omega),List.getElem?_eq_none (by simp;omega)]
theorem cmpL_swo {β:Type} (key:β→List Int):SWO (ltOf (fun x y=>cmpL (key x) (key y))) where
 irrefl x:=by unfold ltOf;rw[cmpL_neg];exact lessB_irr _
 trans x y z h1 h2:=by unfold ltOf at *;rw[cmpL_neg] at *;exact lessB_trans _ _ _ h1 h2
 ntrans x y z h1 h2:=by unfold ltOf at *;rw[cmpL_neg] at *;exact lessB_ntrans h2 h1
set_option maxHeartbeats 1000000 in
theorem iSort6_gen {β:Type} (key:β→List Int) (C:Value→β→Prop) (E:TypeId) (w0 w:World) (g n cap:Nat) (cs:List Value) (bl:List β)
  (hB:BuiltC E 1 w0 w (.slice (some ⟨g,0,none⟩) n cap) n cs) (hl:bl.length=n) (hel:∀(j:Nat) (b:β),bl[j]?=some b→∃v,cs[j]?=some v∧C v b)
  (h1:∀v b,C v b→v.oneCell'=true) (hC:∀v b,C v b→∀W',OnlyAt [g] w W'→Ints W' v (key b)) (hsz:n<4611686018427387904) :
  Calls Tryz.prog 118 #[.slice (some ⟨g,0,none⟩) n cap,.func (.func 119) #[] #[]] w (fun e w'=>e=.returned (.tuple #[])∧∃cs' bl',BuiltC E 1 w0 w' (.slice (some ⟨g,0,none⟩) n cap) n cs'∧List.Perm bl' bl∧AscL (bl'.map key)∧(∀(j:Nat) (b:β),bl'[j]?=some b→∃v,cs'[j]?=some v∧C v b)∧OnlyAt [g] w w'):=by
 have hlen:=hB.len;rcases Nat.eq_zero_or_pos n with h0|hpos
 ·subst h0;have hS:=AnyF.slices_SortFunc_none (P:=Tryz.prog) (ρ:=Tryz.laysSlF6_f118_ren) { Tryz.laysSlF6_f118 with } (some ⟨g,0,none⟩) cap (.func (.func 119) #[] #[]) w
  change Calls Tryz.prog 118 _ _ _ at hS
  refine hS.mono fun e w' ⟨he,hw⟩=>?_
  subst hw;have hb0:bl=[]:=List.eq_nil_of_length_eq_zero hl;subst hb0;exact⟨he,cs,[],hB,List.Perm.refl _,List.Pairwise.nil,fun j b hb=>by simp at hb,OnlyAt.refl _ _⟩
 ·obtain⟨d,hd1,hd2⟩:=pairList bl cs (by omega) hel;have hdl:d.length=n:=by rw[←hl,←hd2,List.length_map]
  haveI:Inhabited {p:Value × β // C p.1 p.2}:=⟨d[0]'(by omega)⟩
  have hH:Holds (fun p:{p:Value × β // C p.1 p.2}=>p.1.1) w g 0 d.toArray:=by
   intro j hj;rw[Nat.zero_add];have hj':j<d.length:=by simpa using hj
   refine⟨?_,hB.frozen j⟩;rw[hB.cell j (by omega),←hd1,List.getElem?_map,List.getElem?_eq_getElem hj',getElem!_pos d.toArray j hj];rfl
  have hS:=Any.slices_SortFunc Tryz.laysSlF6_f118 (fun p:{p:Value × β // C p.1 p.2}=>p.1.1) (fun p=>h1 _ _ p.2) (fun x y=>cmpL (key x.1.2) (key y.1.2)) (cmpL_swo (fun p:{p:Value × β // C p.1 p.2}=>key p.1.2)) 119 #[] g 0 cap d.toArray w
   (enters_of Tryz.func119 (by kernel_rfl) rfl)
   (fun m os dk hs x y=>by
    have ho:=onlyAt_sortWorld (fun p:{p:Value × β // C p.1 p.2}=>p.1.1) w g 0 m dk os;refine (iCompareE_any _ _ _ _ _ (hC _ _ x.2 _ ho) (hC _ _ y.2 _ ho)).mono fun e w' ⟨he,hw⟩=>⟨he,0,#[],?_⟩
    rw[←hw,grow_empty];rfl)
   hH hB.lt.2 (by simpa[hdl] using hsz)
  change Calls Tryz.prog 118 _ _ _ at hS
  have hsize:d.toArray.size=n:=by simp[hdl]
  rw[hsize] at hS;refine hS.mono fun e w' ⟨he,d',m,os,hp,hs,hw⟩=>?_
  subst hw;have hd'n:d'.size=n:=by rw[hp.1,hsize]
  have hperm:d'.toList.Perm d:=by
   have:=hp.2.2;have e1:d'.extract 0 n=d':=by rw[←hd'n];exact Array.extract_size
   have e2:d.toArray.extract 0 n=d.toArray:=by rw[←hsize];exact Array.extract_size
   rw[e1,e2] at this;simpa using this
  refine⟨he,_,d'.toList.map (fun p=>p.1.2),hB.sorted d.toArray d' hH hsize hd'n m os,by rw[←hd2];exact hperm.map _,?_,fun j b hb=>?_,onlyAt_sortWorld _ _ _ _ _ _ _⟩
  ·unfold AscL;rw[List.map_map,List.pairwise_map];refine List.pairwise_iff_getElem.2 fun i j hi hj hij=>?_
   have:=hs i j (Nat.zero_le _) hij (by simp at hj;omega);simp at hi hj;unfold ltOf at this;rw[cmpL_neg,getElem!_pos d' j hj,getElem!_pos d' i hi] at this;simpa using this
  ·rw[List.getElem?_map] at hb;obtain⟨p,hp5,rfl⟩:=Option.map_eq_some_iff.1 hb;exact⟨p.1.1,by rw[List.getElem?_map,hp5];rfl,p.2⟩
end Go.Proofs.YtpedpbbiamhgdaaGreatDoor
