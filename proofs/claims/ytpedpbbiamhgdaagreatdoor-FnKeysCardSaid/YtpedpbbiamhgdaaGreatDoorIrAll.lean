import Derived.Test.YtpedpbbiamhgdaaGreatDoorSquery
import Derived.Test.YtpedpbbiamhgdaaGreatDoorAtomK
import Derived.Test.YtpedpbbiamhgdaaGreatDoorSq4all
import Derived.Test.YtpedpbbiamhgdaaGreatDoorSatom
import Derived.Test.YtpedpbbiamhgdaaGreatDoorSfineV
namespace Go.Proofs.YtpedpbbiamhgdaaGreatDoor
open Go Go.Sort Go.RowKit
set_option linter.unusedVariables false
set_option maxHeartbeats 1000000 in
theorem iRuleOf_any (w:World) (a:Option Addr) (n c:Nat) (a':Option Addr) (n' c':Nat) :
  Calls Tryz.prog 78 #[.agg #[.slice a n c,.slice a' n' c']] w fun e w'=>e=.returned (.agg #[.slice a n c,.slice a' n' c'])∧Below w.heap.size w w':=by
 have hb0:∀o p,Below w.heap.size w ((w.alloc o).alloc p):=fun o p=>((Below.refl _ _).alloc (Nat.le_refl _) _).alloc (by simp) _
 have HB0:=Lib.hid hb0;clear hb0;go_enter Tryz.func78,Tryz.ntmps78
 go_wp2_with fail
 exact bodyPost_ret (v:=.agg #[.slice a n c,.slice a' n' c']) (by simp[results,Tryz.results78,go_sem]) rfl ⟨rfl,HB0.out _ _⟩
def GaveIdx (w:World) (l:List Int) (x:Int) (e:Ending) (w':World):Prop:=∃r:Int,e=.returned (.int .i64 r)∧decide (0≤r)=decide (x∈l)∧w=w'
theorem mem_at {l:List Int} {x:Int} (i:Nat) (hi:i<l.length) (h:x=l.getD i 0):x∈l:=by rw[h];exact getD_mem hi
theorem not_mem_of {l:List Int} {x:Int} (h:∀j,j<l.length→x≠l.getD j 0):x∉l:=by
 intro hx;obtain⟨j,hj,e⟩:=List.mem_iff_getElem.1 hx;refine h j hj ?_;rw[List.getD_eq_getElem?_getD,List.getElem?_eq_getElem hj];exact e.symm
set_option maxHeartbeats 1000000 in
theorem sIndexI_any (w:World) (v:Value) (l:List Int) (x:Int) (h:Ints w v l) :
  Calls Tryz.prog 160 #[v,.int .i64 x] w (GaveIdx w l x):=by
 obtain⟨a,n,cap,rfl,hl,hn,hm,hcell⟩:=h.cases;unfold maxLen at hm;have HC:=Lib.hid hcell;have HL:=Lib.hid hl;clear h hcell hl;go_enter Tryz.func160,Tryz.ntmps160
 go_wp2_with fail
 go_loopw [8] (fun iv wr=>∃i:Nat,i≤n∧iv=.int .i64 i∧wr=w∧Hid (∀j,j<i→x≠l.getD j 0)) (fun iv _=>n-(intOf iv).toNat)
 case atStart=>exact⟨0,by omega,rfl,rfl,fun j hj=>by omega⟩
 case round=>
  obtain⟨i,hi,rfl,rfl,HE⟩:=hrel;by_cases hlt:i<n
  ·obtain⟨b,off,rfl,hbw,hc⟩:=HC.out (by omega);have c1:=hc i hlt;clear hc hbw;have hi0:(0:Int)≤i:=by omega
   have hi1:(i:Int)<n:=by omega
   by_cases hx:x=l.getD i 0
   ·have HX:Hid (x∈l):=mem_at i (by rw[HL.out];exact hlt) hx;rw[←hx] at c1;clear hx;go_wp2_with fail
    go_ret;exact⟨_,rfl,by rw[decide_eq_true HX.out,decide_eq_true hi0],rfl⟩
   ·have HX:=Lib.hid (fun j (e:j=i)=>(by rw[e];exact hx:x≠l.getD j 0));generalize l.getD i 0=y at *;go_wp2_with fail
    refine⟨⟨i+1,by omega,by simp,by trivial,fun j hj=>?_⟩,by simp[intOf];omega⟩;rcases Nat.lt_or_ge j i with h|h
    ·exact HE.out j h
    ·exact HX.out j (by omega)
  ·obtain rfl:i=n:=by omega
   have HX:Hid (x∉l):=not_mem_of (fun j hj=>HE.out j (by rw[←HL.out];exact hj));go_wp2_with fail
   go_ret;exact⟨-1,rfl,by rw[decide_eq_false HX.out];rfl,rfl⟩
theorem sContI_any (w:World) (v:Value) (l:List Int) (x:Int) (h:Ints w v l) :
  Calls Tryz.prog 131 #[v,.int .i64 x] w fun e w'=>e=.returned (.bool (decide (x∈l)))∧w=w':=by
 have hI:=sIndexI_any w v l x h;obtain⟨a,n,cap,rfl,hl,hn,hm,hcell⟩:=h.cases;clear hcell hl;go_enter Tryz.func131,Tryz.ntmps131
 go_wp2_with fail
 refine hI.mono ?_;rintro e w1 ⟨r,rfl,hr,rfl⟩;go_wp2_with fail
 go_ret;rw[←hr];exact⟨rfl,rfl⟩
def mentB (l:List AtomD) (t:Int):Bool:=l.any (fun x=>decide (t∈x.2))
theorem mem_bv (l:List Int) (out:List Int) (t:Int):t∈l.foldl bvStep out↔t∈out∨(0≤t∧t∈l):=by
 induction l generalizing out with
 |nil=>simp
 |cons x l ih=>
  rw[List.foldl_cons,ih];unfold bvStep
  split
  ·rename_i h
   simp only[List.mem_append,List.mem_cons,List.not_mem_nil,or_false];constructor
   ·rintro ((h1|rfl)|h1)
    ·exact .inl h1
    ·exact .inr ⟨h.1,.inl rfl⟩
    ·exact .inr ⟨h1.1,.inr h1.2⟩
   ·rintro (h1|⟨h1,(rfl|h2)⟩)
    ·exact .inl (.inl h1)
    ·exact .inl (.inr rfl)
    ·exact .inr ⟨h1,h2⟩
  ·rename_i h
   simp only[List.mem_cons];constructor
   ·rintro (h1|h1)
    ·exact .inl h1
    ·exact .inr ⟨h1.1,.inr h1.2⟩
   ·rintro (h1|⟨h1,(rfl|h2)⟩)
    ·exact .inl h1
    ·by_cases h3:t∈out
     ·exact .inl h3
     ·exact absurd ⟨h1,h3⟩ h
    ·exact .inr ⟨h1,h2⟩
theorem mem_bodyVars (l:List AtomD) (t:Int) (h:0≤t):decide (t∈bodyVars l)=mentB l t:=by
 unfold bodyVars mentB
 have:(t∈(l.flatMap (·.2)).foldl bvStep [])↔∃x∈l,t∈x.2:=by
  rw[mem_bv];simp[List.mem_flatMap,h]
 rw[Bool.eq_iff_iff,decide_eq_true_iff,this];simp
theorem ment_yes {l:List AtomD} {t:Int} {i:Nat} {x:AtomD} (h:l[i]?=some x) (h2:t∈x.2):mentB l t=true:=by
 unfold mentB;rw[List.any_eq_true];exact⟨x,List.mem_of_getElem? h,decide_eq_true h2⟩
theorem ment_no {l:List AtomD} {t:Int} (h:∀(j:Nat) (x:AtomD),l[j]?=some x→t∉x.2):mentB l t=false:=by
 unfold mentB;rw[List.any_eq_false];intro x hx;obtain⟨j,hj⟩:=List.mem_iff_getElem?.1 hx;simpa using h j x hj
set_option maxHeartbeats 2000000 in
theorem iMent_any (w:World) (v:Value) (l:List AtomD) (t:Int) (h:RdAtomS w v l) :
  Calls Tryz.prog 82 #[v,.int .i64 t] w (GaveBool w (mentB l t)):=by
 obtain⟨a,n,c,rfl,h⟩:=h;obtain⟨hl,hn,hm,hcell⟩:=h.at
 unfold maxLen at hm;have HC:=Lib.hid hcell;have HL:=Lib.hid hl;have hK:=Lib.hid (fun w v l h=>sContI_any w v l t h);clear h hcell hl;go_enter Tryz.func82,Tryz.ntmps82
 go_wp2_with fail
 go_loopw [9] (fun iv wr=>∃i:Nat,i≤n∧iv=.int .i64 i∧Below w.heap.size w wr∧Hid (∀(j:Nat) (x:AtomD),j<i→l[j]?=some x→t∉x.2)) (fun iv _=>n-(intOf iv).toNat)
 case atStart=>exact⟨0,by omega,rfl,Below.refl _ _,fun j x hj=>by omega⟩
 case round=>
  obtain⟨i,hi,rfl,hb,HE⟩:=hrel;have HB:=Lib.hid hb;by_cases hlt:i<n
  ·obtain⟨b,off,rfl,hbw,hc⟩:=HC.out (by omega);obtain⟨e,hd⟩:∃e,l[i]?=some e:=⟨l[i]'(by rw[HL.out];exact hlt),List.getElem?_eq_getElem (by rw[HL.out];exact hlt)⟩
   obtain⟨ea,em,ec,c0,c1,hdi,hints⟩:=atomAt (n:=n) hc i e hd;have k0:=cellk hb c0;have k1:=cellk hb c1;have HI:=Lib.hid (hints.below hb);have HD:=Lib.hid hd;have hi0:(0:Int)≤i:=by omega
   have hi1:(i:Int)<n:=by omega
   clear hc hbw hb hd hdi hints c0 c1;by_cases hx:t∈e.2
   ·have HQ:=Lib.hid (ment_yes HD.out hx);have hcall:=Lib.hid (fun w v h=>hK.out w v e.2 h);rw[decide_eq_true hx] at hcall;clear hx;generalize e.1=r at *;go_wp2_with fail
    refine (hcall.out _ _ (HI.out.below ?_)).mono ?_
    ·exact ((Below.refl _ _).alloc (Nat.le_refl _) _)
    rintro e w1 ⟨rfl,rfl⟩;go_wp2_with fail
    go_ret;exact⟨ret_b HQ.out.symm,HB.out.alloc HB.out.size _⟩
   ·have HQ:=Lib.hid hx;have hcall:=Lib.hid (fun w v h=>hK.out w v e.2 h);rw[decide_eq_false hx] at hcall;clear hx;generalize e.1=r at *;go_wp2_with fail
    refine (hcall.out _ _ (HI.out.below ?_)).mono ?_
    ·exact ((Below.refl _ _).alloc (Nat.le_refl _) _)
    rintro e' w1 ⟨rfl,rfl⟩;go_wp2_with fail
    refine⟨⟨i+1,by omega,by simp,HB.out.alloc HB.out.size _,fun j x hj h5=>?_⟩,by simp[intOf];omega⟩;rcases Nat.lt_or_ge j i with h7|h7
    ·exact HE.out j x h7 h5
    ·obtain rfl:j=i:=by omega
     rw[HD.out] at h5;cases h5;exact HQ.out
  ·obtain rfl:i=n:=by omega
   have HX:=Lib.hid (ment_no (l:=l) (t:=t) (fun j x h5=>HE.out j x (by rw[←HL.out];exact (List.getElem?_eq_some_iff.1 h5).1) h5));clear hb;go_wp2_with fail
   go_ret;exact⟨ret_b HX.out.symm,HB.out⟩
theorem isSchemaB_len {l:List Int} (h:l.length<1∨4<l.length):isSchemaB l=false:=by
 have:inB (l.length:Int) 1 4=false:=decide_eq_false (by omega);unfold isSchemaB;rw[this,Bool.and_false]
theorem isSchemaB_ok {l:List Int} (h1:1≤l.length) (h4:l.length≤4) (h:∀j,j<l.length→inB (l.getD j 0) 1 3=true):isSchemaB l=true:=by
 rw[isSchemaB_all h];exact decide_eq_true (by omega)
set_option maxHeartbeats 1000000 in
theorem iIsSchema_any (w:World) (v:Value) (l:List Int) (h:Ints w v l) :
  Calls Tryz.prog 83 #[.agg #[v]] w (GaveBool w (isSchemaB l)):=by
 obtain⟨a,n,cap,rfl,hl,hn,hm,hcell⟩:=h.cases;unfold maxLen at hm;have hb0:∀a,Below w.heap.size w (w.alloc a):=fun a=>(Below.refl _ _).alloc (Nat.le_refl _) _
 have HC:=Lib.hid hcell;have HL:=Lib.hid hl;have HB:=Lib.hid hb0;clear h hcell hl hb0;by_cases h1:n<1
 ·have HX:=Lib.hid (isSchemaB_len (l:=l) (by rw[HL.out];omega));obtain rfl:n=0:=by omega
  clear h1;go_enter Tryz.func83,Tryz.ntmps83
  go_wp2_with fail
  go_ret;exact⟨ret_b HX.out.symm,HB.out _⟩
 ·have q1:¬((n:Int)<1):=by omega
  by_cases h4:4<n
  ·have HX:=Lib.hid (isSchemaB_len (l:=l) (by rw[HL.out];omega));have q4:(4:Int)<n:=by omega
   clear h1 h4;go_enter Tryz.func83,Tryz.ntmps83
   go_wp2_with fail
   go_ret;exact⟨ret_b HX.out.symm,HB.out _⟩
  ·have q4:¬((4:Int)<n):=by omega
   go_enter Tryz.func83,Tryz.ntmps83
   go_wp2_with fail
   go_loopw [18] (fun iv wr=>∃i:Nat,i≤n∧iv=.int .i64 i∧wr=w.alloc (.cells #[.slice a n cap] 26)∧Hid (∀j,j<i→inB (l.getD j 0) 1 3=true)) (fun iv _=>n-(intOf iv).toNat)
   case atStart=>exact⟨0,by omega,rfl,rfl,fun j hj=>by omega⟩
   case round=>
    obtain⟨i,hi,rfl,rfl,HE⟩:=hrel;by_cases hlt:i<n
    ·obtain⟨b,off,rfl,hbw,hc⟩:=HC.out (by omega);have c1:=cellk (HB.out (.cells #[.slice (some ⟨b,off,none⟩) n cap] 26)) (hc i hlt);clear hc hbw;have hi0:(0:Int)≤i:=by omega
     have hi1:(i:Int)<n:=by omega
     cases hx:inB (l.getD i 0) 1 3 with
     |true=>
      have HX:=Lib.hid (fun j (e:j=i)=>(by rw[e];exact hx:inB (l.getD j 0) 1 3=true));have hxx:1≤l.getD i 0∧l.getD i 0≤3:=of_decide_eq_true hx;clear hx;generalize l.getD i 0=x at *;have x1:¬x<1:=by omega
      have x3:¬3<x:=by omega
      go_wp2_with fail
      refine⟨⟨i+1,by omega,by simp,by trivial,fun j hj=>?_⟩,by simp[intOf];omega⟩;rcases Nat.lt_or_ge j i with h|h
      ·exact HE.out j h
      ·exact HX.out j (by omega)
     |false=>
      have HX:=Lib.hid (isSchemaB_no i (by rw[HL.out];exact hlt) hx);have hxx:¬(1≤l.getD i 0∧l.getD i 0≤3):=of_decide_eq_false hx;clear hx;generalize l.getD i 0=x at *;by_cases x1:x<1
      ·clear hxx;go_wp2_with fail
       go_ret;exact⟨ret_b HX.out.symm,HB.out _⟩
      ·have x3:3<x:=by omega
       clear hxx;go_wp2_with fail
       go_ret;exact⟨ret_b HX.out.symm,HB.out _⟩
    ·obtain rfl:i=n:=by omega
     have HX:=Lib.hid (isSchemaB_ok (l:=l) (by rw[HL.out];omega) (by rw[HL.out];omega) (fun j hj=>HE.out j (by rw[←HL.out];exact hj)));go_wp2_with fail
     go_ret;exact⟨ret_b HX.out.symm,HB.out _⟩
theorem isAtomB_len {s:List Int} {k:Nat} {l:List Int} (h:(l.length:Int)≠s.getD k 0):isAtomB s k l=false:=by
 unfold isAtomB;rw[Int.toNat_natCast,decide_eq_false h,Bool.and_false,Bool.false_and]
theorem isAtomB_terms {s:List Int} {k:Nat} {l:List Int} (h1:isSchemaB s=true) (hk:k<s.length) (h:(l.length:Int)=s.getD k 0):isAtomB s k l=l.all termB:=by
 have h2:inB (k:Int) 0 ((s.length:Int)-1)=true:=decide_eq_true (by omega)
 have h3:inB (s.getD k 0) 1 3=true:=by
  unfold isSchemaB at h1;rw[Bool.and_eq_true,List.all_eq_true] at h1;exact h1.1 _ (getD_mem hk)
 have h4:1≤s.getD k 0∧s.getD k 0≤3:=of_decide_eq_true h3;unfold isAtomB termsB;rw[Int.toNat_natCast,decide_eq_true h,h1,h2,decide_eq_true (by omega:l.length≤3),Bool.and_true];simp
def upB (m:Int) (l:List Int):Bool:=l.all (fun x=>inB x 0 m)
set_option maxHeartbeats 4000000 in
theorem iUpTo_any (w:World) (m:Int) (v:Value) (l:List Int) (h:Ints w v l) :
  Calls Tryz.prog 161 #[v,.int .i64 m] w fun e w'=>e=.returned (.bool (upB m l))∧w=w':=by
 obtain⟨a,n,cap,rfl,hl,hn,hm,hcell⟩:=h.cases;unfold maxLen at hm;have HC:=Lib.hid hcell;have HL:=Lib.hid hl;clear h hcell hl;go_enter Tryz.func161,Tryz.ntmps161
 go_wp2_with fail
 go_loopw [9] (fun iv wr=>∃i:Nat,i≤n∧iv=.int .i64 i∧wr=w∧Hid (∀j,j<i→inB (l.getD j 0) 0 m=true)) (fun iv _=>n-(intOf iv).toNat)
 case atStart=>exact⟨0,by omega,rfl,rfl,fun j hj=>by omega⟩
 case round=>
  obtain⟨i,hi,rfl,rfl,HE⟩:=hrel;by_cases hlt:i<n
  ·obtain⟨b,off,rfl,hbw,hc⟩:=HC.out (by omega);have c1:=hc i hlt;clear hc hbw;have hi0:(0:Int)≤i:=by omega
   have hi1:(i:Int)<n:=by omega
   cases hx:inB (l.getD i 0) 0 m with
   |true=>
    have HX:=Lib.hid (fun j (e:j=i)=>(by rw[e];exact hx:inB (l.getD j 0) 0 m=true));have hxx:0≤l.getD i 0∧l.getD i 0≤m:=of_decide_eq_true hx;clear hx;generalize l.getD i 0=x at *;have x1:¬x<0:=by omega
    have x3:¬m<x:=by omega
    go_wp2_with fail
    refine⟨⟨i+1,by omega,by simp,by trivial,fun j hj=>?_⟩,by simp[intOf];omega⟩;rcases Nat.lt_or_ge j i with h|h
    ·exact HE.out j h
    ·exact HX.out j (by omega)
   |false=>
    have HX:Hid (upB m l=false):=all_no i (by rw[HL.out];exact hlt) hx;have hxx:¬(0≤l.getD i 0∧l.getD i 0≤m):=of_decide_eq_false hx;clear hx;generalize l.getD i 0=x at *;by_cases x1:x<0
    ·clear hxx;go_wp2_with fail
     go_ret;exact⟨ret_b HX.out.symm,rfl⟩
    ·have x3:m<x:=by omega
     clear hxx;go_wp2_with fail
     go_ret;exact⟨ret_b HX.out.symm,rfl⟩
  ·obtain rfl:i=n:=by omega
   have HX:Hid (upB m l=true):=all_yes (fun j hj=>HE.out j (by rw[←HL.out];exact hj));go_wp2_with fail
   go_ret;exact⟨ret_b HX.out.symm,rfl⟩
def relB (s:List Int) (r:Int):Bool:=isSchemaB s&&inB r 0 ((s.length:Int)-1)
theorem isAtomB_norel {s:List Int} {r:Int} {l:List Int} (h:relB s r=false):isAtomB s r l=false:=by
 unfold relB at h;unfold isAtomB;rw[h,Bool.false_and,Bool.false_and]
set_option maxHeartbeats 4000000 in
theorem iHasRel_any (w:World) (r:Int) (vs:Value) (s:List Int) (hs:Ints w vs s) :
  Calls Tryz.prog 132 #[.agg #[vs],.int .i64 r] w (GaveBool w (relB s r)):=by
 obtain⟨a,n,cap,rfl,hl,hn,hm,hcell⟩:=hs.cases;unfold maxLen at hm;have hb0:∀a,Below w.heap.size w (w.alloc a):=fun a=>(Below.refl _ _).alloc (Nat.le_refl _) _
 have hS:=Lib.hid (fun w h=>iIsSchema_any w (.slice a n cap) s h);have HS:=Lib.hid hs;have HB0:=Lib.hid hb0;have HQ:Hid (relB s r=(isSchemaB s&&inB r 0 ((n:Int)-1))):=by unfold Hid relB;rw[hl]
 cases h1:isSchemaB s with
 |false=>
  rw[h1] at hS HQ;clear hs hcell hl hb0 h1;go_enter Tryz.func132,Tryz.ntmps132
  go_wp2_with fail
  refine (hS.out _ (HS.out.below (HB0.out _))).mono ?_;rintro e w1 ⟨rfl,hb⟩;have HB1:=Lib.hid (bnext (HB0.out _) hb);clear hb;go_wp2_with fail
  go_ret;exact⟨ret_b HQ.out.symm,HB1.out⟩
 |true=>
  rw[h1] at hS HQ;clear hs hcell hl hb0 h1;by_cases h2:0≤r
  ·by_cases h3:r<n
   ·have HX:=Lib.hid (show inB r 0 ((n:Int)-1)=true from decide_eq_true (by omega));go_enter Tryz.func132,Tryz.ntmps132
    go_wp2_with fail
    refine (hS.out _ (HS.out.below (HB0.out _))).mono ?_;rintro e w1 ⟨rfl,hb⟩;have HB1:=Lib.hid (bnext (HB0.out _) hb);have k0:=cellk hb (b:=w.heap.size) (o:=0) (v:=.slice a n cap) (by simp);clear hb;go_wp2_with fail
    go_ret;exact⟨ret_b (by rw[HQ.out,HX.out];rfl),HB1.out⟩
   ·have HX:=Lib.hid (show inB r 0 ((n:Int)-1)=false from decide_eq_false (by omega));go_enter Tryz.func132,Tryz.ntmps132
    go_wp2_with fail
    refine (hS.out _ (HS.out.below (HB0.out _))).mono ?_;rintro e w1 ⟨rfl,hb⟩;have HB1:=Lib.hid (bnext (HB0.out _) hb);have k0:=cellk hb (b:=w.heap.size) (o:=0) (v:=.slice a n cap) (by simp);clear hb;go_wp2_with fail
    go_ret;exact⟨ret_b (by rw[HQ.out,HX.out];exact decide_eq_false (by omega)),HB1.out⟩
  ·have HX:=Lib.hid (show inB r 0 ((n:Int)-1)=false from decide_eq_false (by omega));go_enter Tryz.func132,Tryz.ntmps132
   go_wp2_with fail
   refine (hS.out _ (HS.out.below (HB0.out _))).mono ?_;rintro e w1 ⟨rfl,hb⟩;have HB1:=Lib.hid (bnext (HB0.out _) hb);clear hb;go_wp2_with fail
   go_ret;exact⟨ret_b (by rw[HQ.out,HX.out];rfl),HB1.out⟩
set_option maxHeartbeats 4000000 in
theorem iIsAtom_any (w:World) (r:Int) (vs v:Value) (s l:List Int) (hs:Ints w vs s) (h:Ints w v l) :
  Calls Tryz.prog 128 #[.agg #[vs],.agg #[.int .i64 r,v]] w (GaveBool w (isAtomB s r l)):=by
 obtain⟨a,n,cap,rfl,hl,hn,hm,hcell⟩:=hs.cases;obtain⟨a',n',cap',rfl,hl',hn',hm',hcell'⟩:=h.cases;unfold maxLen at hm hm';have hb0:∀a b,Below w.heap.size w ((w.alloc a).alloc b):=fun a b=>((Below.refl _ _).alloc (Nat.le_refl _) _).alloc (by simp) _
 have hS:=Lib.hid (fun w h=>iHasRel_any w r (.slice a n cap) s h);have HS:=Lib.hid hs;have HB0:=Lib.hid hb0;have HC':=Lib.hid hcell';have HL':=Lib.hid hl';have hin:=Lib.hid (fun x a b w=>iIsTerm_any x w a b);have HI:=Lib.hid h.1
 cases h1:relB s r with
 |false=>
  have HQ:=Lib.hid (isAtomB_norel (l:=l) h1);rw[h1] at hS;clear hs h hcell hcell' hl hl' hb0 h1;go_enter Tryz.func128,Tryz.ntmps128
  go_wp2_with fail
  obtain⟨W,hW⟩:∃W,W=((w.alloc (.cells #[.slice a n cap] 26)).alloc (.cells #[.int .i64 r,.slice a' n' cap'] 83)):=⟨_,rfl⟩
  have k0:=cell_regrown (w:=W) (a:=⟨w.heap.size,0,none⟩) (v:=.slice a n cap) (by rw[hW];simp);have k1:=cell_regrown (w:=W) (a:=⟨w.heap.size+1,0,none⟩) (v:=.int .i64 r) (by rw[hW];simp);have k2:=cell_regrown (w:=W) (a:=⟨w.heap.size+1,1,none⟩) (v:=.slice a' n' cap') (by rw[hW];simp);have HBW:Hid (Below w.heap.size w W):=by rw[hW];exact HB0.out _ _
  rw[←hW];have HSW:=Lib.hid (fun d os=>HS.out.below (HBW.out.trans ((below_regrown W d os).mono HBW.out.size)));clear hW;refine wp_region_quiet_below (by kernel_rfl) (by kernel_rfl) ?_
  repeat (any_goals (first|go_big_quiet_step ((go_at_call 132;exact Calls.regrown_of (hS.out _ (HSW.out _ _))))|quiet_step ((go_at_call 132;exact Calls.regrown_of (hS.out _ (HSW.out _ _))))))
  refine wpQuiet_nil ?_;intro _ hw';obtain⟨⟨dq,osq⟩,hw''⟩:=hw';subst hw'';go_wp2_with fail
  go_ret;exact⟨ret_b HQ.out.symm,bnext HBW.out (below_regrown _ _ _)⟩
 |true=>
  rw[h1] at hS;have h1':=h1;unfold relB at h1';rw[Bool.and_eq_true] at h1';have hr0:0≤r∧r≤(s.length:Int)-1:=of_decide_eq_true h1'.2;have h1s:=h1'.1;clear h1';obtain⟨k,rfl⟩:=Int.eq_ofNat_of_zero_le hr0.1;have hk:k<n:=by omega
  have hk0:(0:Int)≤k:=by omega
  have hk1:(k:Int)<n:=by omega
  have hk2:¬((n:Int)≤k):=by omega
  have hk3:¬((k:Int)<0):=by omega
  obtain⟨b,off,rfl,hbw,hc⟩:=hcell (by omega);have c1:=Lib.hid (hc k hk);by_cases h4:(l.length:Int)=s.getD k 0
  ·have HQ:=Lib.hid (isAtomB_terms h1s (by rw[hl];exact hk) h4);rw[←h4,hl'] at c1;have q:((n':Int) != n')=false:=by simp
   have HT:=Lib.hid h;clear hs h hcell hcell' hl hl' hb0 h1 h1s hc hbw h4 hr0;go_enter Tryz.func128,Tryz.ntmps128
   go_wp2_with fail
   obtain⟨W,hW⟩:∃W,W=((w.alloc (.cells #[.slice (some ⟨b,off,none⟩) n cap] 26)).alloc (.cells #[.int .i64 k,.slice a' n' cap'] 83)):=⟨_,rfl⟩
   have k0:=cell_regrown (w:=W) (a:=⟨w.heap.size,0,none⟩) (v:=.slice (some ⟨b,off,none⟩) n cap) (by rw[hW];simp);have k1:=cell_regrown (w:=W) (a:=⟨w.heap.size+1,0,none⟩) (v:=.int .i64 k) (by rw[hW];simp);have k2:=cell_regrown (w:=W) (a:=⟨w.heap.size+1,1,none⟩) (v:=.slice a' n' cap') (by rw[hW];simp);have k3:=cell_regrown (w:=W) (a:=⟨b,off+k,none⟩) (by rw[hW];exact cellk (HB0.out _ _) c1.out);have HBW:Hid (Below w.heap.size w W):=by rw[hW];exact HB0.out _ _
   rw[←hW];have HSW:=Lib.hid (fun d os=>HS.out.below (HBW.out.trans ((below_regrown W d os).mono HBW.out.size)));clear hW;refine wp_region_quiet_below (by kernel_rfl) (by kernel_rfl) ?_
   repeat (any_goals (first|go_big_quiet_step ((go_at_call 132;exact Calls.regrown_of (hS.out _ (HSW.out _ _))))|quiet_step ((go_at_call 132;exact Calls.regrown_of (hS.out _ (HSW.out _ _))))))
   refine wpQuiet_nil ?_;intro _ hw';obtain⟨⟨dq,osq⟩,hw''⟩:=hw';subst hw'';go_wp2_with fail
   go_loopw [27] (fun iv wr=>∃i:Nat,i≤n'∧iv=.int .i64 i∧Below w.heap.size w wr∧Hid (∀j,j<i→termB (l.getD j 0)=true)) (fun iv _=>n'-(intOf iv).toNat)
   case atStart=>exact⟨0,by omega,rfl,bnext HBW.out (below_regrown _ _ _),fun j hj=>by omega⟩
   case round=>
    obtain⟨i,hi,rfl,hb,HE⟩:=hrel;have HB:=Lib.hid hb;by_cases hlt:i<n'
    ·obtain⟨b',off',rfl,hbw',hc'⟩:=HC'.out (by omega);have c2:=cellk hb (hc' i hlt);clear hc' hbw' hb;have hi0:(0:Int)≤i:=by omega
     have hi1:(i:Int)<n':=by omega
     have hxx:=inI_getD HI.out i
     cases hx:termB (l.getD i 0) with
     |true=>
      have HX:=Lib.hid (fun j (e:j=i)=>(by rw[e];exact hx:termB (l.getD j 0)=true));have hc:=Lib.hid ((hin.out (l.getD i 0) hxx.1 hxx.2 wr));rw[hx] at hc;clear hx hxx;generalize l.getD i 0=x at *;go_wp2_with fail
      refine hc.out.mono ?_;rintro e w1 ⟨rfl,rfl⟩;go_wp2_with fail
      refine⟨⟨i+1,by omega,by simp,HB.out,fun j hj=>?_⟩,by simp[intOf];omega⟩;rcases Nat.lt_or_ge j i with h|h
      ·exact HE.out j h
      ·exact HX.out j (by omega)
     |false=>
      have HX:=Lib.hid (all_no i (by rw[HL'.out];exact hlt) hx);have hc:=Lib.hid ((hin.out (l.getD i 0) hxx.1 hxx.2 wr));rw[hx] at hc;clear hx hxx;generalize l.getD i 0=x at *;go_wp2_with fail
      refine hc.out.mono ?_;rintro e w1 ⟨rfl,rfl⟩;go_wp2_with fail
      go_ret;exact⟨ret_b (by rw[HQ.out,HX.out]),HB.out⟩
    ·obtain rfl:i=n':=by omega
     have HX:=Lib.hid (all_yes (l:=l) (p:=termB) (fun j hj=>HE.out j (by rw[←HL'.out];exact hj)));clear hb;go_wp2_with fail
     go_ret;exact⟨ret_b (by rw[HQ.out,HX.out]),HB.out⟩
  ·have HQ:=Lib.hid (isAtomB_len (s:=s) (k:=k) (l:=l) h4);have q:((n':Int) != s.getD k 0)=true:=by rw[←hl'];exact bne_iff_ne.2 h4
   generalize s.getD k 0=x at *;clear hs h hcell hcell' hl hl' hb0 h1 h1s hc hbw h4 hr0;go_enter Tryz.func128,Tryz.ntmps128
   go_wp2_with fail
   obtain⟨W,hW⟩:∃W,W=((w.alloc (.cells #[.slice (some ⟨b,off,none⟩) n cap] 26)).alloc (.cells #[.int .i64 k,.slice a' n' cap'] 83)):=⟨_,rfl⟩
   have k0:=cell_regrown (w:=W) (a:=⟨w.heap.size,0,none⟩) (v:=.slice (some ⟨b,off,none⟩) n cap) (by rw[hW];simp);have k1:=cell_regrown (w:=W) (a:=⟨w.heap.size+1,0,none⟩) (v:=.int .i64 k) (by rw[hW];simp);have k2:=cell_regrown (w:=W) (a:=⟨w.heap.size+1,1,none⟩) (v:=.slice a' n' cap') (by rw[hW];simp);have k3:=cell_regrown (w:=W) (a:=⟨b,off+k,none⟩) (by rw[hW];exact cellk (HB0.out _ _) c1.out);have HBW:Hid (Below w.heap.size w W):=by rw[hW];exact HB0.out _ _
   rw[←hW];have HSW:=Lib.hid (fun d os=>HS.out.below (HBW.out.trans ((below_regrown W d os).mono HBW.out.size)));clear hW;refine wp_region_quiet_below (by kernel_rfl) (by kernel_rfl) ?_
   repeat (any_goals (first|go_big_quiet_step ((go_at_call 132;exact Calls.regrown_of (hS.out _ (HSW.out _ _))))|quiet_step ((go_at_call 132;exact Calls.regrown_of (hS.out _ (HSW.out _ _))))))
   refine wpQuiet_nil ?_;intro _ hw';obtain⟨⟨dq,osq⟩,hw''⟩:=hw';subst hw'';go_wp2_with fail
   go_ret;exact⟨ret_b HQ.out.symm,bnext HBW.out (below_regrown _ _ _)⟩
def validB (s:List Int) (l:List AtomD):Bool:=inB l.length 1 4&&l.all (fun x=>isAtomB s x.1 x.2)
theorem valid_len {s:List Int} {l:List AtomD} (h:l.length<1∨4<l.length):validB s l=false:=by
 have:inB (l.length:Int) 1 4=false:=decide_eq_false (by omega);unfold validB;rw[this];rfl
theorem valid_no {s:List Int} {l:List AtomD} {i:Nat} {x:AtomD} (h:l[i]?=some x) (h2:isAtomB s x.1 x.2=false):validB s l=false:=by
 unfold validB;rw[allA_no h h2,Bool.and_false]
theorem valid_yes {s:List Int} {l:List AtomD} (h1:1≤l.length) (h4:l.length≤4) (h:∀(j:Nat) (x:AtomD),l[j]?=some x→isAtomB s x.1 x.2=true):validB s l=true:=by
 have:inB (l.length:Int) 1 4=true:=decide_eq_true (by omega);unfold validB;rw[this,allA_yes h];rfl
set_option maxHeartbeats 4000000 in
theorem iValid_any (w:World) (v vs:Value) (l:List AtomD) (s:List Int) (h:RdAtomS w v l) (hs:RdSchema w vs s) :
  Calls Tryz.prog 79 #[v,vs] w (GaveBool w (validB s l)):=by
 obtain⟨a,n,c,rfl,h⟩:=h;obtain⟨sa,sn,sc,rfl,hs⟩:=hs;obtain⟨hl,hn,hm,hcell⟩:=h.at
 unfold maxLen at hm;have hb0:∀o,Below w.heap.size w (w.alloc o):=fun o=>(Below.refl _ _).alloc (Nat.le_refl _) _
 have HB0:=Lib.hid hb0;have HC:=Lib.hid hcell;have HL:=Lib.hid hl;have HS:=Lib.hid hs;have hA:=Lib.hid (fun w r v' l hs h=>iIsAtom_any w r (.slice sa sn sc) v' s l hs h);clear h hcell hl hs hb0;by_cases h1:n<1
 ·have HX:=Lib.hid (valid_len (s:=s) (l:=l) (by rw[HL.out];omega));obtain rfl:n=0:=by omega
  clear h1;go_enter Tryz.func79,Tryz.ntmps79
  go_wp2_with fail
  go_ret;exact⟨ret_b HX.out.symm,HB0.out _⟩
 ·have q1:¬((n:Int)<1):=by omega
  by_cases h4:4<n
  ·have HX:=Lib.hid (valid_len (s:=s) (l:=l) (by rw[HL.out];omega));have q4:(4:Int)<n:=by omega
   clear h1 h4;go_enter Tryz.func79,Tryz.ntmps79
   go_wp2_with fail
   go_ret;exact⟨ret_b HX.out.symm,HB0.out _⟩
  ·have q4:¬((4:Int)<n):=by omega
   go_enter Tryz.func79,Tryz.ntmps79
   go_wp2_with fail
   obtain⟨W,hW⟩:∃W,W=w.alloc (.cells #[.slice sa sn sc] 26):=⟨_,rfl⟩
   have KS:Hid (W.cell? ⟨w.heap.size,0,none⟩=some (.slice sa sn sc)):=by rw[hW];unfold Hid;simp
   have HBW:Hid (Below w.heap.size w W):=by rw[hW];exact HB0.out _
   rw[←hW];clear hW
   go_loopw [17] (fun iv wr=>∃i:Nat,i≤n∧iv=.int .i64 i∧Below W.heap.size W wr∧Hid (∀(j:Nat) (x:AtomD),j<i→l[j]?=some x→isAtomB s x.1 x.2=true)) (fun iv _=>n-(intOf iv).toNat)
   case atStart=>exact⟨0,by omega,rfl,Below.refl _ _,fun j x hj=>by omega⟩
   case round=>
    obtain⟨i,hi,rfl,hb,HE⟩:=hrel;have HB:=Lib.hid hb;by_cases hlt:i<n
    ·obtain⟨b,off,rfl,hbw,hc⟩:=HC.out (by omega);obtain⟨e,hd⟩:∃e,l[i]?=some e:=⟨l[i]'(by rw[HL.out];exact hlt),List.getElem?_eq_getElem (by rw[HL.out];exact hlt)⟩
     obtain⟨ea,em,ec,c0,c1,hdi,hints⟩:=atomAt (n:=n) hc i e hd;have hww:=bnext HBW.out hb;have k0:=cellk hww c0;have k1:=cellk hww c1;have ks:=cellk ((Below.refl wr.heap.size wr).alloc (Nat.le_refl _) (.cells #[.int .i64 e.1,.slice ea em ec] 83)) (cellk hb KS.out);have HI:=Lib.hid (hints.below hww);have HSW:=Lib.hid (HS.out.below hww);have HD:=Lib.hid hd;have hi0:(0:Int)≤i:=by omega
     have hi1:(i:Int)<n:=by omega
     have hcall:=Lib.hid (fun w h h'=>hA.out w e.1 (.slice ea em ec) e.2 h h');clear hc hbw hb hd hdi hints c0 c1 hww
     cases hx:isAtomB s e.1 e.2 with
     |false=>
      have HQ:=Lib.hid (valid_no HD.out hx);rw[hx] at hcall;clear hx;generalize e.1=r at *;go_wp2_with fail
      have hbn:=(Below.refl wr.heap.size wr).alloc (Nat.le_refl _) (.cells #[.int .i64 r,.slice ea em ec] 83);refine (hcall.out _ (HSW.out.below hbn) (HI.out.below hbn)).mono ?_;rintro e w1 ⟨rfl,hb⟩;have HB1:=Lib.hid (bnext HBW.out (bnext HB.out (bnext hbn hb)));clear hb hbn ks;go_wp2_with fail
      go_ret;exact⟨ret_b HQ.out.symm,HB1.out⟩
     |true=>
      have HQ:=Lib.hid (fun (x:AtomD) (e':x=e)=>(by rw[e'];exact hx:isAtomB s x.1 x.2=true));rw[hx] at hcall;clear hx;generalize hr:e.1=r at *;clear hr;go_wp2_with fail
      have hbn:=(Below.refl wr.heap.size wr).alloc (Nat.le_refl _) (.cells #[.int .i64 r,.slice ea em ec] 83);refine (hcall.out _ (HSW.out.below hbn) (HI.out.below hbn)).mono ?_;rintro e' w1 ⟨rfl,hb⟩;have HB1:=Lib.hid (bnext HB.out (bnext hbn hb));clear hb hbn ks;go_wp2_with fail
      refine⟨⟨i+1,by omega,by simp,HB1.out,fun j x hj h5=>?_⟩,by simp[intOf];omega⟩;rcases Nat.lt_or_ge j i with h7|h7
      ·exact HE.out j x h7 h5
      ·obtain rfl:j=i:=by omega
       rw[HD.out] at h5;exact HQ.out x (Option.some.inj h5).symm
    ·obtain rfl:i=n:=by omega
     have HX:=Lib.hid (valid_yes (s:=s) (l:=l) (by rw[HL.out];omega) (by rw[HL.out];omega) (fun j x h5=>HE.out j x (by rw[←HL.out];exact (List.getElem?_eq_some_iff.1 h5).1) h5));clear hb;go_wp2_with fail
     go_ret;exact⟨ret_b HX.out.symm,bnext HBW.out HB.out⟩
def hd4 (l:List AtomD) (t:Int):Bool:=termB t&&(!varB t||mentB l t)
theorem valid_schema {s:List Int} {l:List AtomD} (h:validB s l=true):isSchemaB s=true:=by
 unfold validB at h;rw[Bool.and_eq_true] at h;have h1:=of_decide_eq_true h.1
 cases l with
 |nil=>simp at h1
 |cons x t=>
  have:=List.all_eq_true.1 h.2 x (by simp);unfold isAtomB at this;rw[Bool.and_eq_true,Bool.and_eq_true,Bool.and_eq_true] at this;exact this.1.1.1
theorem headOk_ment (l:List AtomD) (t:Int):headOk (bodyVars l) t=(!varB t||mentB l t):=by
 unfold headOk
 cases hv:varB t with
 |false=>rfl
 |true=>rw[mem_bodyVars l t (of_decide_eq_true hv).1]
theorem fine_iq (s:List Int) (d:QueryD):fineB s d 4=(decide (d.1.length≤3)&&(validB s d.2&&d.1.all (hd4 d.2))):=by
 have e1:d.1.all (hd4 d.2)=(d.1.all termB&&d.1.all (headOk (bodyVars d.2))):=by
  rw[Bool.eq_iff_iff,Bool.and_eq_true,List.all_eq_true,List.all_eq_true,List.all_eq_true];constructor
  ·intro h;refine⟨fun x hx=>?_,fun x hx=>?_⟩
   ·have:=h x hx;unfold hd4 at this;rw[Bool.and_eq_true] at this;exact this.1
   ·have:=h x hx;unfold hd4 at this;rw[Bool.and_eq_true] at this;rw[headOk_ment];exact this.2
  ·rintro⟨h1,h2⟩ x hx;unfold hd4;rw[Bool.and_eq_true,←headOk_ment];exact⟨h1 x hx,h2 x hx⟩
 rw[e1]
 cases hv:validB s d.2 with
 |true=>
  have h1:=valid_schema hv;unfold fineB;unfold validB at hv;rw[Bool.and_eq_true] at hv;rw[h1,hv.1,hv.2];unfold termsB
  cases decide (d.1.length≤3)<;>cases d.1.all termB<;>simp
 |false=>
  rw[Bool.false_and,Bool.and_false];unfold fineB;unfold validB at hv;rw[Bool.eq_false_iff];intro hc;rw[Bool.and_eq_true,Bool.and_eq_true,Bool.and_eq_true,Bool.and_eq_true] at hc;rw[hc.2.2.1,hc.2.2.2.1] at hv
  cases hv
theorem iq_1 {s:List Int} {d:QueryD} (h:3<d.1.length):fineB s d 4=false:=by rw[fine_iq,decide_eq_false (by omega)];rfl
theorem iq_2 {s:List Int} {d:QueryD} (h:validB s d.2=false):fineB s d 4=false:=by rw[fine_iq,h,Bool.false_and,Bool.and_false]
theorem iq_3 {s:List Int} {d:QueryD} (i:Nat) (hi:i<d.1.length) (h:hd4 d.2 (d.1.getD i 0)=false):fineB s d 4=false:=by rw[fine_iq,all_no i hi h,Bool.and_false,Bool.and_false]
theorem iq_4 {s:List Int} {d:QueryD} (h3:d.1.length≤3) (h:validB s d.2=true) (hh:∀j,j<d.1.length→hd4 d.2 (d.1.getD j 0)=true):fineB s d 4=true:=by rw[fine_iq,h,all_yes hh,decide_eq_true h3];rfl
set_option maxRecDepth 100000 in
set_option maxHeartbeats 4000000 in
theorem iIsQuery_core (w:World) (vs v:Value) (s:List Int) (d:QueryD) (hvs:RdSchema w vs s) (h:RdQuery w v d) :
  Calls Tryz.prog 38 #[vs,v] w (GaveBool w (fineB s d 4)):=by
 obtain⟨sa,sn,sc,rfl,hs⟩:=hvs;obtain⟨ha,hn,hc,a,n,c,rfl,hi,h⟩:=h;obtain⟨_,_,_,e1,hl,hn1,hm,hcell⟩:=hi.cases
 cases e1;unfold maxLen at hm;have hb0:∀a b,Below w.heap.size w ((w.alloc a).alloc b):=fun a b=>((Below.refl _ _).alloc (Nat.le_refl _) _).alloc (by simp) _
 have HB0:=Lib.hid hb0;have hR:=Lib.hid (fun w=>iRuleOf_any w ha hn hc a n c);have hV:=Lib.hid (fun w h h'=>iValid_any w (.slice a n c) (.agg #[.slice sa sn sc]) d.2 s h h');have hM:=Lib.hid (fun w t h=>iMent_any w (.slice a n c) d.2 t h);have hT:=Lib.hid (fun x a b w=>iIsTerm_any x w a b);have hVar:=Lib.hid (fun x w=>iIsVar_any x w);have HS:Hid (RdSchema w (.agg #[.slice sa sn sc]) s):=⟨_,_,_,rfl,hs⟩;have HA:Hid (RdAtomS w (.slice a n c) d.2):=⟨_,_,_,rfl,h⟩;have HC:=Lib.hid hcell;have HL:=Lib.hid hl;have HI:=Lib.hid hi.1;clear hs h hcell hl hi hb0;by_cases h3:3<hn
 ·have HQ:=Lib.hid (iq_1 (s:=s) (d:=d) (by rw[HL.out];exact h3));have q3:(3:Int)<hn:=by omega
  go_enter Tryz.func38,Tryz.ntmps38
  go_wp2_with fail
  refine (hR.out _).mono ?_;rintro e W ⟨rfl,hb⟩;have HBW:=Lib.hid (bnext (HB0.out _ _) hb);clear hb;go_wp2_with fail
  go_ret;exact⟨ret_b HQ.out.symm,HBW.out.alloc HBW.out.size _⟩
 have q3:¬((3:Int)<hn):=by omega
 cases hv:validB s d.2 with
 |false=>
  have HQ:=Lib.hid (iq_2 (s:=s) (d:=d) hv);rw[hv] at hV;clear hv;go_enter Tryz.func38,Tryz.ntmps38
  go_wp2_with fail
  refine (hR.out _).mono ?_;rintro e W ⟨rfl,hb⟩;have HBW:=Lib.hid (bnext (HB0.out _ _) hb);have ks:=cellk ((Below.refl W.heap.size W).alloc (Nat.le_refl _) (.cells #[.slice ha hn hc,.slice a n c] 108)) (cellk hb (b:=w.heap.size) (o:=0) (v:=.slice sa sn sc) (by simp));clear hb;go_wp2_with fail
  have hbn:=(Below.refl W.heap.size W).alloc (Nat.le_refl _) (.cells #[.slice ha hn hc,.slice a n c] 108);have hbw:=bnext HBW.out hbn;refine (hV.out _ (HA.out.below hbw) (HS.out.below hbw)).mono ?_;rintro e W2 ⟨rfl,hb⟩;have HB2:=Lib.hid (bnext hbw hb);clear hb hbw hbn ks;go_wp2_with fail
  go_ret;exact⟨ret_b HQ.out.symm,HB2.out⟩
 |true=>
  have HVV:=Lib.hid hv;rw[hv] at hV;clear hv;go_enter Tryz.func38,Tryz.ntmps38
  go_wp2_with fail
  refine (hR.out _).mono ?_;rintro e W ⟨rfl,hb⟩;have HBW:=Lib.hid (bnext (HB0.out _ _) hb);have ks:=cellk ((Below.refl W.heap.size W).alloc (Nat.le_refl _) (.cells #[.slice ha hn hc,.slice a n c] 108)) (cellk hb (b:=w.heap.size) (o:=0) (v:=.slice sa sn sc) (by simp));clear hb;go_wp2_with fail
  have hbn:=(Below.refl W.heap.size W).alloc (Nat.le_refl _) (.cells #[.slice ha hn hc,.slice a n c] 108);have hbw:=bnext HBW.out hbn;refine (hV.out _ (HA.out.below hbw) (HS.out.below hbw)).mono ?_;rintro e W2 ⟨rfl,hb⟩;have HB2:=Lib.hid (bnext hbw hb);have KR0:=Lib.hid (cellk hb (b:=W.heap.size) (o:=0) (v:=.slice ha hn hc) (by simp));have KR1:=Lib.hid (cellk hb (b:=W.heap.size) (o:=1) (v:=.slice a n c) (by simp));have kr0:=KR0.out;clear hb hbw hbn ks;go_wp2_with fail
  clear kr0
  go_loopw [24] (fun iv wr=>∃i:Nat,i≤hn∧iv=.int .i64 i∧Below W2.heap.size W2 wr∧Hid (∀j,j<i→hd4 d.2 (d.1.getD j 0)=true)) (fun iv _=>hn-(intOf iv).toNat)
  case atStart=>exact⟨0,by omega,rfl,Below.refl _ _,fun j hj=>by omega⟩
  case round=>
   obtain⟨i,hi,rfl,hb,HE⟩:=hrel;have HB:=Lib.hid hb;have kr1:=cellk hb KR1.out;by_cases hlt:i<hn
   ·obtain⟨b,off,rfl,hbw,hc⟩:=HC.out (by omega);have hww:=bnext HB2.out hb;have c1:=cellk hww (hc i hlt);have HAW:=Lib.hid (HA.out.below hww);have hi0:(0:Int)≤i:=by omega
    have hi1:(i:Int)<hn:=by omega
    have hxx:=inI_getD HI.out i;have hct:=Lib.hid (hT.out (d.1.getD i 0) hxx.1 hxx.2);have hcv:=Lib.hid (hVar.out (d.1.getD i 0));have hcm:=Lib.hid (fun w h=>hM.out w (d.1.getD i 0) h);have HX:∀q,hd4 d.2 (d.1.getD i 0)=q→Hid (∀j,j=i→hd4 d.2 (d.1.getD j 0)=q):=fun q hq j e=>by rw[e];exact hq
    have HNO:hd4 d.2 (d.1.getD i 0)=false→Hid (fineB s d 4=false):=fun h=>iq_3 i (by rw[HL.out];exact hlt) h
    unfold hd4 at HX HNO;clear hc hbw hb hww hxx
    cases ht:termB (d.1.getD i 0) with
    |false=>
     have HQ:=HNO (by rw[ht];rfl);rw[ht] at hct;clear HX HNO ht;generalize d.1.getD i 0=x at *;go_wp2_with fail
     refine (hct.out _).mono ?_;rintro e w1 ⟨rfl,rfl⟩;go_wp2_with fail
     go_ret;exact⟨ret_b HQ.out.symm,bnext HB2.out HB.out⟩
    |true=>
     rw[ht] at hct
     cases hv:varB (d.1.getD i 0) with
     |false=>
      have HQ:=HX true (by rw[ht,hv];rfl);rw[hv] at hcv;clear HX HNO ht hv;generalize d.1.getD i 0=x at *;go_wp2_with fail
      refine (hct.out _).mono ?_;rintro e w1 ⟨rfl,rfl⟩;go_wp2_with fail
      refine (hcv.out _).mono ?_;rintro e w1 ⟨rfl,rfl⟩;go_wp2_with fail
      refine⟨⟨i+1,by omega,by simp,HB.out,fun j hj=>?_⟩,by simp[intOf];omega⟩;rcases Nat.lt_or_ge j i with h|h
      ·exact HE.out j h
      ·exact HQ.out j (by omega)
     |true=>
      rw[hv] at hcv
      cases hm:mentB d.2 (d.1.getD i 0) with
      |false=>
       have HQ:=HNO (by rw[ht,hv,hm];rfl);rw[hm] at hcm;clear HX HNO ht hv hm;generalize d.1.getD i 0=x at *;go_wp2_with fail
       refine (hct.out _).mono ?_;rintro e w1 ⟨rfl,rfl⟩;go_wp2_with fail
       refine (hcv.out _).mono ?_;rintro e w1 ⟨rfl,rfl⟩;go_wp2_with fail
       refine (hcm.out _ HAW.out).mono ?_;rintro e w1 ⟨rfl,hb⟩;have HB3:=Lib.hid (bnext HB2.out (bnext HB.out hb));clear hb kr1;go_wp2_with fail
       go_ret;exact⟨ret_b HQ.out.symm,HB3.out⟩
      |true=>
       have HQ:=HX true (by rw[ht,hv,hm];rfl);rw[hm] at hcm;clear HX HNO ht hv hm;generalize d.1.getD i 0=x at *;go_wp2_with fail
       refine (hct.out _).mono ?_;rintro e w1 ⟨rfl,rfl⟩;go_wp2_with fail
       refine (hcv.out _).mono ?_;rintro e w1 ⟨rfl,rfl⟩;go_wp2_with fail
       refine (hcm.out _ HAW.out).mono ?_;rintro e w1 ⟨rfl,hb⟩;have HB3:=Lib.hid (bnext HB.out hb);clear hb kr1;go_wp2_with fail
       refine⟨⟨i+1,by omega,by simp,HB3.out,fun j hj=>?_⟩,by simp[intOf];omega⟩;rcases Nat.lt_or_ge j i with h|h
       ·exact HE.out j h
       ·exact HQ.out j (by omega)
   ·obtain rfl:i=hn:=by omega
    have HQ:=Lib.hid (iq_4 (s:=s) (d:=d) (by rw[HL.out];omega) HVV.out (fun j hj=>HE.out j (by rw[←HL.out];exact hj)));clear hb kr1;go_wp2_with fail
    go_ret;exact⟨ret_b HQ.out.symm,bnext HB2.out HB.out⟩
theorem iIsQuery_any (w:World) (vs v:Value) (s:List Int) (d:QueryD) (hvs:RdSchema w vs s) (h:RdQuery w v d) (hsz:sizeAtomS d.2≤1048576) :
  Calls Tryz.prog 38 #[vs,v] w (GaveBool w (fineB s d 4)):=iIsQuery_core w vs v s d hvs h
end Go.Proofs.YtpedpbbiamhgdaaGreatDoor
