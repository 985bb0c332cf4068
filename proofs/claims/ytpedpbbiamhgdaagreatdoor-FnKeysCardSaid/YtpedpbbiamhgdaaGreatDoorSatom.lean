import Derived.Test.YtpedpbbiamhgdaaGreatDoorLawK
import Derived.Test.YtpedpbbiamhgdaaGreatDoorTerm
import Derived.Lib.QuietBelow
namespace Go.Proofs.YtpedpbbiamhgdaaGreatDoor
open Go Go.Sort Go.RowKit
set_option linter.unusedVariables false
def isSchemaB (l:List Int):Bool:=l.all (fun x=>inB x 1 3)&&inB l.length 1 4
def termsB (l:List Int):Bool:=l.all termB&&decide (l.length≤3)
theorem getD_mem {l:List Int} {j:Nat} (hj:j<l.length):l.getD j 0∈l:=by
 rw[List.getD_eq_getElem?_getD,List.getElem?_eq_getElem hj];exact List.getElem_mem hj
theorem all_no {l:List Int} {p:Int→Bool} (j:Nat) (hj:j<l.length) (h:p (l.getD j 0)=false):l.all p=false:=by
 rw[Bool.eq_false_iff];intro hc;rw[List.all_eq_true.1 hc _ (getD_mem hj)] at h
 cases h
theorem all_yes {l:List Int} {p:Int→Bool} (h:∀j,j<l.length→p (l.getD j 0)=true):l.all p=true:=by
 rw[List.all_eq_true];intro x hx;obtain⟨j,hj,rfl⟩:=List.mem_iff_getElem.1 hx;have:=h j hj
 rwa [List.getD_eq_getElem?_getD,List.getElem?_eq_getElem hj] at this
theorem isSchemaB_no {l:List Int} (j:Nat) (hj:j<l.length) (h:inB (l.getD j 0) 1 3=false):isSchemaB l=false:=by
 unfold isSchemaB;rw[all_no j hj h];rfl
theorem isSchemaB_all {l:List Int} (h:∀j,j<l.length→inB (l.getD j 0) 1 3=true):isSchemaB l=inB l.length 1 4:=by
 unfold isSchemaB;rw[all_yes h];rfl
theorem termsB_no {l:List Int} (j:Nat) (hj:j<l.length) (h:termB (l.getD j 0)=false):termsB l=false:=by
 unfold termsB;rw[all_no j hj h];rfl
theorem termsB_all {l:List Int} (h:∀j,j<l.length→termB (l.getD j 0)=true):termsB l=decide (l.length≤3):=by
 unfold termsB;rw[all_yes h];rfl
set_option maxHeartbeats 1000000 in
theorem sIsSchema_any (w:World) (v:Value) (l:List Int) (h:Ints w v l) :
  Calls Tryz.prog 45 #[.agg #[v]] w (GaveBool w (isSchemaB l)):=by
 obtain⟨a,n,cap,rfl,hl,hn,hm,hcell⟩:=h.cases;unfold maxLen at hm;have hb0:∀a,Below w.heap.size w (w.alloc a):=fun a=>(Below.refl _ _).alloc (Nat.le_refl _) _
 have hin:=Lib.hid (fun x a b w=>l1In_any x a b w);have HC:=Lib.hid hcell;have HL:=Lib.hid hl;have HB:=Lib.hid hb0;clear h hcell hl hb0;go_enter Tryz.func45,Tryz.ntmps45
 go_wp2_with fail
 go_loopw [3] (fun iv wr=>∃i:Nat,i≤n∧iv=.int .i64 i∧wr=w.alloc (.cells #[.slice a n cap] 26)∧Hid (∀j,j<i→inB (l.getD j 0) 1 3=true)) (fun iv _=>n-(intOf iv).toNat)
 case atStart=>exact⟨0,by omega,rfl,rfl,fun j hj=>by omega⟩
 case round=>
  obtain⟨i,hi,rfl,rfl,HE⟩:=hrel;by_cases hlt:i<n
  ·obtain⟨b,off,rfl,hbw,hc⟩:=HC.out (by omega);have c1:=cellk (HB.out (.cells #[.slice (some ⟨b,off,none⟩) n cap] 26)) (hc i hlt);clear hc hbw;have hi0:(0:Int)≤i:=by omega
   have hi1:(i:Int)<n:=by omega
   cases hx:inB (l.getD i 0) 1 3 with
   |true=>
    have HX:=Lib.hid (fun j (e:j=i)=>(by rw[e];exact hx:inB (l.getD j 0) 1 3=true));have hc:=Lib.hid ((hin.out (l.getD i 0) 1 3 (w.alloc (.cells #[.slice (some ⟨b,off,none⟩) n cap] 26))));rw[hx] at hc;clear hx;generalize l.getD i 0=x at *;go_wp2_with fail
    refine hc.out.mono ?_;rintro e w1 ⟨rfl,rfl⟩;go_wp2_with fail
    refine⟨⟨i+1,by omega,by simp,by trivial,fun j hj=>?_⟩,by simp[intOf];omega⟩;rcases Nat.lt_or_ge j i with h|h
    ·exact HE.out j h
    ·exact HX.out j (by omega)
   |false=>
    have HX:=Lib.hid (isSchemaB_no i (by rw[HL.out];exact hlt) hx);have hc:=Lib.hid ((hin.out (l.getD i 0) 1 3 (w.alloc (.cells #[.slice (some ⟨b,off,none⟩) n cap] 26))));rw[hx] at hc;clear hx;generalize l.getD i 0=x at *;go_wp2_with fail
    refine hc.out.mono ?_;rintro e w1 ⟨rfl,rfl⟩;go_wp2_with fail
    go_ret;exact⟨ret_b HX.out.symm,HB.out _⟩
  ·obtain rfl:i=n:=by omega
   have HX:=Lib.hid (isSchemaB_all (l:=l) (fun j hj=>HE.out j (by rw[←HL.out];exact hj)));have hl:=HL.out;rw[hl] at HX;clear hl;have hc:=Lib.hid ((hin.out i 1 4 (w.alloc (.cells #[.slice a i cap] 26))));go_wp2_with fail
   refine hc.out.mono ?_;rintro e w1 ⟨rfl,rfl⟩;go_wp2_with fail
   go_ret;exact⟨ret_b HX.out.symm,HB.out _⟩
set_option maxHeartbeats 1000000 in
theorem sTerms_any (w:World) (v:Value) (l:List Int) (h:Ints w v l) :
  Calls Tryz.prog 112 #[v] w (GaveBool w (termsB l)):=by
 obtain⟨a,n,cap,rfl,hl,hn,hm,hcell⟩:=h.cases;unfold maxLen at hm;have hin:=Lib.hid (fun x a b w=>sIsTerm_any x w a b);have HI:=Lib.hid h.1;have HC:=Lib.hid hcell;have HL:=Lib.hid hl;clear h hcell hl;go_enter Tryz.func112,Tryz.ntmps112
 go_wp2_with fail
 go_loopw [3] (fun iv wr=>∃i:Nat,i≤n∧iv=.int .i64 i∧wr=w∧Hid (∀j,j<i→termB (l.getD j 0)=true)) (fun iv _=>n-(intOf iv).toNat)
 case atStart=>exact⟨0,by omega,rfl,rfl,fun j hj=>by omega⟩
 case round=>
  obtain⟨i,hi,rfl,rfl,HE⟩:=hrel;by_cases hlt:i<n
  ·obtain⟨b,off,rfl,hbw,hc⟩:=HC.out (by omega);have c1:=hc i hlt;clear hc hbw;have hi0:(0:Int)≤i:=by omega
   have hi1:(i:Int)<n:=by omega
   have hxx:=inI_getD HI.out i
   cases hx:termB (l.getD i 0) with
   |true=>
    have HX:=Lib.hid (fun j (e:j=i)=>(by rw[e];exact hx:termB (l.getD j 0)=true));have hc:=Lib.hid ((hin.out (l.getD i 0) hxx.1 hxx.2 wr));rw[hx] at hc;clear hx hxx;generalize l.getD i 0=x at *;go_wp2_with fail
    refine hc.out.mono ?_;rintro e w1 ⟨rfl,rfl⟩;go_wp2_with fail
    refine⟨⟨i+1,by omega,by simp,by trivial,fun j hj=>?_⟩,by simp[intOf];omega⟩;rcases Nat.lt_or_ge j i with h|h
    ·exact HE.out j h
    ·exact HX.out j (by omega)
   |false=>
    have HX:=Lib.hid (termsB_no i (by rw[HL.out];exact hlt) hx);have hc:=Lib.hid ((hin.out (l.getD i 0) hxx.1 hxx.2 wr));rw[hx] at hc;clear hx hxx;generalize l.getD i 0=x at *;go_wp2_with fail
    refine hc.out.mono ?_;rintro e w1 ⟨rfl,rfl⟩;go_wp2_with fail
    go_ret;exact⟨ret_b HX.out.symm,Below.refl _ _⟩
  ·obtain rfl:i=n:=by omega
   have HX:=Lib.hid (termsB_all (l:=l) (fun j hj=>HE.out j (by rw[←HL.out];exact hj)));have hl:=HL.out;rw[hl] at HX;clear hl;by_cases h3:i≤3
   ·have q:decide (i≤3)=true:=decide_eq_true h3;have q':decide ((i:Int)≤3)=true:=decide_eq_true (by omega);rw[q] at HX;go_wp2_with fail
    go_ret;exact⟨ret_b HX.out.symm,Below.refl _ _⟩
   ·have q:decide (i≤3)=false:=decide_eq_false h3;have q':decide ((i:Int)≤3)=false:=decide_eq_false (by omega);rw[q] at HX;go_wp2_with fail
    go_ret;exact⟨ret_b HX.out.symm,Below.refl _ _⟩
def lessB:List Int→List Int→Bool
 |[],[]=>false
 |[],_::_=>true
 |_::_,[]=>false
 |x::l,y::r=>if x=y then lessB l r else decide (x<y)
theorem lessB_at {l r:List Int} (i:Nat) (h1:i<l.length) (h2:i<r.length) (he:∀j,j<i→l.getD j 0=r.getD j 0) (hne:l.getD i 0≠r.getD i 0):lessB l r=decide (l.getD i 0<r.getD i 0):=by
 induction i generalizing l r with
 |zero=>
  match l,r,h1,h2 with
  |x::l,y::r,_,_=>
   have hne':x≠y:=hne;unfold lessB;rw[if_neg hne'];rfl
 |succ i ih=>
  match l,r,h1,h2 with
  |x::l,y::r,h1,h2=>
   have h0:x=y:=he 0 (by omega);unfold lessB;rw[if_pos h0];have:=ih (l:=l) (r:=r) (by simpa using h1) (by simpa using h2) (fun j hj=>by simpa using he (j+1) (by omega)) (by simpa using hne);rw[this];simp
theorem lessB_end {l r:List Int} (he:∀j,j<l.length→j<r.length→l.getD j 0=r.getD j 0):lessB l r=decide (l.length<r.length):=by
 induction l generalizing r with
 |nil=>cases r<;>simp[lessB]
 |cons x l ih=>
  cases r with
  |nil=>simp[lessB]
  |cons y r=>
   have h0:x=y:=he 0 (by simp) (by simp);unfold lessB;rw[if_pos h0,ih (fun j h1 h2=>by simpa using he (j+1) (by simpa using h1) (by simpa using h2))];simp
set_option maxHeartbeats 2000000 in
theorem sLess_any (w:World) (v v':Value) (l l':List Int) (h:Ints w v l) (h':Ints w v' l') :
  Calls Tryz.prog 108 #[v,v'] w (GaveBool w (lessB l l')):=by
 obtain⟨a,n,cap,rfl,hl,hn,hm,hcell⟩:=h.cases;obtain⟨a',n',cap',rfl,hl',hn',hm',hcell'⟩:=h'.cases;unfold maxLen at hm hm';have HC:=Lib.hid hcell;have HC':=Lib.hid hcell';have HL:=Lib.hid hl;have HL':=Lib.hid hl';clear h h' hcell hcell' hl hl';go_enter Tryz.func108,Tryz.ntmps108
 go_wp2_with fail
 go_loopw [5] (fun iv wr=>∃i:Nat,i≤n∧i≤n'∧iv=.int .i64 i∧Below w.heap.size w wr∧Hid (∀j,j<i→l.getD j 0=l'.getD j 0)) (fun iv _=>n-(intOf iv).toNat)
 case atStart=>exact⟨0,by omega,by omega,rfl,Below.refl _ _,fun j hj=>by omega⟩
 case round=>
  obtain⟨i,hi,hi',rfl,hb,HE⟩:=hrel;have HB:=Lib.hid hb;by_cases hlt:i<n∧i<n'
  ·obtain⟨hlt,hlt'⟩:=hlt;obtain⟨b,off,rfl,hbw,hc⟩:=HC.out (by omega);obtain⟨b',off',rfl,hbw',hc'⟩:=HC'.out (by omega);have c1:=cellk hb (hc i hlt);have c2:=cellk hb (hc' i hlt');clear hc hc' hbw hbw' hb;have hi0:(0:Int)≤i:=by omega
   have hi1:(i:Int)<n:=by omega
   have hi2:(i:Int)<n':=by omega
   have q1:decide ((i:Int)<n)=true:=decide_eq_true hi1;have q2:decide ((i:Int)<n')=true:=decide_eq_true hi2;by_cases heq:l.getD i 0=l'.getD i 0
   ·have HQ:=Lib.hid (fun j (e:j=i)=>(by rw[e];exact heq:l.getD j 0=l'.getD j 0));rw[←heq] at c2;clear heq;generalize l.getD i 0=x at *;go_wp2_with fail
    go_quiet (fail)
    go_wp2_with fail
    refine⟨⟨i+1,by omega,by omega,by simp,bnext HB.out (drewN_below _ _),fun j hj=>?_⟩,by simp[intOf];omega⟩;rcases Nat.lt_or_ge j i with h|h
    ·exact HE.out j h
    ·exact HQ.out j (by omega)
   ·have HQ:=Lib.hid (lessB_at i (by rw[HL.out];exact hlt) (by rw[HL'.out];exact hlt') HE.out heq);have q:(l.getD i 0 != l'.getD i 0)=true:=bne_iff_ne.2 heq;clear heq
    cases hd:decide (l.getD i 0<l'.getD i 0)
    all_goals
     rw[hd] at HQ;generalize l.getD i 0=x at *;generalize l'.getD i 0=y at *;go_wp2_with fail
     go_quiet (fail)
     go_wp2_with fail
     go_quiet (fail)
     go_wp2_with fail
     go_ret;exact⟨ret_b HQ.out.symm,bnext HB.out (bnext (drewN_below _ _) (drewN_below _ _))⟩
  ·have HX:=Lib.hid (lessB_end (l:=l) (r:=l') (fun j h1 h2=>HE.out j (by rw[HL.out] at h1;rw[HL'.out] at h2;omega)));have hl:=HL.out;have hl':=HL'.out;rw[hl,hl'] at HX;clear hl hl' hb;by_cases hn1:i<n
   ·obtain rfl:i=n':=by omega
    have q1:decide ((i:Int)<n)=true:=decide_eq_true (by omega);have q2:decide (n<i)=false:=decide_eq_false (by omega);rw[q2] at HX;clear hlt;go_wp2_with fail
    go_ret;exact⟨ret_b HX.out.symm,HB.out⟩
   ·obtain rfl:i=n:=by omega
    clear hlt;by_cases hq:i<n'
    ·have q2:decide (i<n')=true:=decide_eq_true hq;rw[q2] at HX;go_wp2_with fail
     go_ret;exact⟨ret_b HX.out.symm,HB.out⟩
    ·have q2:decide (i<n')=false:=decide_eq_false hq;rw[q2] at HX;go_wp2_with fail
     go_ret;exact⟨ret_b HX.out.symm,HB.out⟩
set_option maxHeartbeats 1000000 in
theorem sInts_nil (w:World) (a a':Option Addr) (cap cap':Nat) :
  Calls Tryz.prog 50 #[.slice a 0 cap,.slice a' 0 cap'] w (GaveBool w true):=by
 go_enter Tryz.func50,Tryz.ntmps50
 go_wp2_with fail
 refine wp_loop_rounds 1 ?_;rw[rounds_succ];go_wp2_with fail
 go_ret;exact⟨rfl,Below.refl _ _⟩
set_option maxHeartbeats 1000000 in
theorem sInts_len (w:World) (a a':Option Addr) (len len' cap cap':Nat) (hne:len≠len') (h1:len≤maxLen) (h2:len'≤maxLen) :
  Calls Tryz.prog 50 #[.slice a len cap,.slice a' len' cap'] w (GaveBool w false):=by
 unfold maxLen at h1 h2;have q:((len:Int) != len')=true:=by simp;omega
 clear hne;go_enter Tryz.func50,Tryz.ntmps50
 go_wp2_with fail
 go_ret;exact⟨rfl,Below.refl _ _⟩
set_option maxHeartbeats 1000000 in
theorem sInts_row (w:World) (b off len cap b' off' cap':Nat) (l l':List Int) (hl:l.length=len) (hl':l'.length=len) (hm:len≤maxLen)
  (hc:∀j,j<len→w.cell? ⟨b,off+j,none⟩=some (.int .i64 (l.getD j 0))) (hc':∀j,j<len→w.cell? ⟨b',off'+j,none⟩=some (.int .i64 (l'.getD j 0))) :
  Calls Tryz.prog 50 #[.slice (some ⟨b,off,none⟩) len cap,.slice (some ⟨b',off',none⟩) len cap'] w (GaveBool w (decide (l=l'))):=by
 unfold maxLen at hm;have HC:=Lib.hid hc;have HC':=Lib.hid hc';have HL:=Lib.hid hl;have HL':=Lib.hid hl';clear hc hc' hl hl';go_enter Tryz.func50,Tryz.ntmps50
 go_wp2_with fail
 go_loopw [5] (fun iv wr=>∃i:Nat,i≤len∧iv=.int .i64 i∧Below w.heap.size w wr∧Hid (∀j,j<i→l.getD j 0=l'.getD j 0)) (fun iv _=>len-(intOf iv).toNat)
 case atStart=>exact⟨0,by omega,rfl,Below.refl _ _,fun j hj=>by omega⟩
 case round=>
  obtain⟨i,hi,rfl,hb,HE⟩:=hrel;have HB:=Lib.hid hb;by_cases hlt:i<len
  ·have c1:=cellk hb (HC.out i hlt);have c2:=cellk hb (HC'.out i hlt);have hi0:(0:Int)≤i:=by omega
   have hi1:(i:Int)<len:=by omega
   clear hb;by_cases heq:l.getD i 0=l'.getD i 0
   ·have HQ:=Lib.hid (fun j (e:j=i)=>(by rw[e];exact heq:l.getD j 0=l'.getD j 0));rw[←heq] at c2;clear heq;generalize l.getD i 0=x at *;go_wp2_with fail
    go_quiet (fail)
    go_wp2_with fail
    refine⟨⟨i+1,by omega,by simp,bnext HB.out (drewN_below _ _),fun j hj=>?_⟩,by simp[intOf];omega⟩;rcases Nat.lt_or_ge j i with h|h
    ·exact HE.out j h
    ·exact HQ.out j (by omega)
   ·have HQ:=Lib.hid (dec_no i (by rw[HL.out];exact hlt) heq);have q:(l.getD i 0 != l'.getD i 0)=true:=bne_iff_ne.2 heq;clear heq;generalize l.getD i 0=x at *;generalize l'.getD i 0=y at *;go_wp2_with fail
    go_quiet (fail)
    go_wp2_with fail
    go_ret;exact⟨ret_b HQ.out.symm,bnext HB.out (drewN_below _ _)⟩
  ·obtain rfl:i=len:=by omega
   have HQ:=Lib.hid (dec_yes (l:=l) (l':=l') (by rw[HL.out,HL'.out]) (fun j hj=>HE.out j (by rw[←HL.out];exact hj)));clear hb;go_wp2_with fail
   go_ret;exact⟨ret_b HQ.out.symm,HB.out⟩
theorem sInts_any (w:World) (v v':Value) (l l':List Int) (h:Ints w v l) (h':Ints w v' l') :
  Calls Tryz.prog 50 #[v,v'] w (GaveBool w (decide (l=l'))):=by
 have k1:=h.len_le;have k2:=h'.len_le;by_cases hlen:l.length=l'.length
 ·rcases h.2 with⟨a,cap,rfl,_,rfl⟩|⟨b,off,len,cap,rfl,hl,h1,h2,hlt,hc⟩
  ·rcases h'.2 with⟨a',cap',rfl,_,rfl⟩|⟨b',off',len',cap',rfl,hl',h1',h2',hlt',hc'⟩
   ·exact sInts_nil w a a' cap cap'
   ·obtain rfl:l'=[]:=List.eq_nil_of_length_eq_zero (by rw[←hlen];rfl);obtain rfl:len'=0:=hl'.symm;exact sInts_nil w a _ cap cap'
  ·rcases h'.2 with⟨a',cap',rfl,_,rfl⟩|⟨b',off',len',cap',rfl,hl',h1',h2',hlt',hc'⟩
   ·obtain rfl:l=[]:=List.eq_nil_of_length_eq_zero (by rw[hlen];rfl);obtain rfl:len=0:=hl.symm;exact sInts_nil w _ a' cap cap'
   ·obtain rfl:len=len':=by omega
    exact sInts_row w b off len cap b' off' cap' l l' hl hl' (by omega) hc hc'
 ·rw[dec_len hlen]
  have form:∀{v:Value} {l:List Int},Ints w v l→∃a cap,v=.slice a l.length cap:=by
   intro v l h;rcases h.2 with⟨a,cap,rfl,_,rfl⟩|⟨b,off,len,cap,rfl,rfl,_⟩
   ·exact⟨a,cap,rfl⟩
   ·exact⟨_,cap,rfl⟩
  obtain⟨a,cap,rfl⟩:=form h;obtain⟨a',cap',rfl⟩:=form h';exact sInts_len w a a' _ _ cap cap' hlen k1 k2
set_option maxHeartbeats 1000000 in
theorem sEqualAtoms_any (w:World) (r r':Int) (v v':Value) (l l':List Int) (h:Ints w v l) (h':Ints w v' l') :
  Calls Tryz.prog 51 #[.agg #[.int .i64 r,v],.agg #[.int .i64 r',v']] w (GaveBool w (decide (r=r'∧l=l'))):=by
 have hb0:∀a b,Below w.heap.size w ((w.alloc a).alloc b):=fun a b=>((Below.refl _ _).alloc (Nat.le_refl _) _).alloc (by simp) _
 have HB0:=Lib.hid hb0;by_cases hr:r=r'
 ·have hE:=Lib.hid (fun a b=>sInts_any _ v v' l l' (h.below (hb0 a b)) (h'.below (hb0 a b)));have hq:decide (r=r'∧l=l')=decide (l=l'):=by simp[hr]
  rw[hq];subst hr;clear hq h h' hb0;generalize decide (l=l')=d at *;go_enter Tryz.func51,Tryz.ntmps51
  go_wp2_with fail
  refine (hE.out _ _).mono ?_;rintro e w1 ⟨rfl,hb⟩;have HB:=Lib.hid (bnext (HB0.out _ _) hb);clear hb;go_wp2_with fail
  go_ret;exact⟨rfl,HB.out⟩
 ·have HQ:Hid (decide (r=r'∧l=l')=false):=decide_eq_false (fun h=>hr h.1);have q:(r==r')=false:=beq_eq_false_iff_ne.2 hr;clear hr h h' hb0;go_enter Tryz.func51,Tryz.ntmps51
  go_wp2_with fail
  go_ret;exact⟨ret_b HQ.out.symm,HB0.out _ _⟩
def lessAtomB (r:Int) (l:List Int) (r':Int) (l':List Int):Bool:=if r=r' then lessB l l' else decide (r<r')
def isAtomB (s:List Int) (r:Int) (l:List Int):Bool:=isSchemaB s&&inB r 0 (s.length-1)&&decide ((l.length:Int)=s.getD r.toNat 0)&&termsB l
set_option maxHeartbeats 2000000 in
theorem sIsAtom_any (w:World) (r:Int) (vs v:Value) (s l:List Int) (hs:Ints w vs s) (h:Ints w v l) :
  Calls Tryz.prog 113 #[.agg #[vs],.agg #[.int .i64 r,v]] w (GaveBool w (isAtomB s r l)):=by
 obtain⟨a,n,cap,rfl,hl,hn,hm,hcell⟩:=hs.cases;obtain⟨a',n',cap',rfl,hl',hn',hm',hcell'⟩:=h.cases;unfold maxLen at hm hm';have hb0:∀a b,Below w.heap.size w ((w.alloc a).alloc b):=fun a b=>((Below.refl _ _).alloc (Nat.le_refl _) _).alloc (by simp) _
 cases h1:isSchemaB s with
 |false=>
  have HQ:Hid (isAtomB s r l=false):=by unfold Hid isAtomB;rw[h1];rfl
  have hS:=Lib.hid (fun w h=>sIsSchema_any w (.slice a n cap) s h);rw[h1] at hS;have HS:=Lib.hid hs;have HB0:=Lib.hid hb0;clear hs h hcell hcell' hl hl' hb0 h1;go_enter Tryz.func113,Tryz.ntmps113
  go_wp2_with fail
  obtain⟨W,hW⟩:∃W,W=((w.alloc (.cells #[.slice a n cap] 26)).alloc (.cells #[.int .i64 r,.slice a' n' cap'] 83)):=⟨_,rfl⟩
  have k0:=cell_regrown (w:=W) (a:=⟨w.heap.size,0,none⟩) (v:=.slice a n cap) (by rw[hW];simp);have k1:=cell_regrown (w:=W) (a:=⟨w.heap.size+1,0,none⟩) (v:=.int .i64 r) (by rw[hW];simp);have k2:=cell_regrown (w:=W) (a:=⟨w.heap.size+1,1,none⟩) (v:=.slice a' n' cap') (by rw[hW];simp);have HBW:Hid (Below w.heap.size w W):=by rw[hW];exact HB0.out _ _
  rw[←hW];have HSW:=Lib.hid (fun d os=>HS.out.below (HBW.out.trans ((below_regrown W d os).mono HBW.out.size)));clear hW;refine wp_region_quiet_below (by kernel_rfl) (by kernel_rfl) ?_
  repeat (any_goals (first|go_big_quiet_step ((go_at_call 45;exact Calls.regrown_of (hS.out _ (HSW.out _ _))))|quiet_step ((go_at_call 45;exact Calls.regrown_of (hS.out _ (HSW.out _ _))))))
  refine wpQuiet_nil ?_;intro _ hw';obtain⟨⟨dq,osq⟩,hw''⟩:=hw';subst hw'';go_wp2_with fail
  go_ret;exact⟨ret_b HQ.out.symm,bnext HBW.out (below_regrown _ _ _)⟩
 |true=>
  have hS:=Lib.hid (fun w h=>sIsSchema_any w (.slice a n cap) s h);rw[h1] at hS;have HS:=Lib.hid hs;have HT:=Lib.hid h;have HB0:=Lib.hid hb0
  have hn0:1≤n:=by
   unfold isSchemaB at h1;rw[Bool.and_eq_true] at h1;have:=of_decide_eq_true h1.2;omega
  have hT:=Lib.hid (fun w h=>sTerms_any w (.slice a' n' cap') l h)
  cases h2:inB r 0 (n-1) with
  |false=>
   have HQ:Hid (isAtomB s r l=false):=by unfold Hid isAtomB;rw[hl,h2,Bool.and_false,Bool.false_and,Bool.false_and]
   have hI:=Lib.hid (fun w=>l1In_any r 0 (n-1) w);rw[h2] at hI;clear hs h hcell hcell' hl hl' hb0 h1 h2;go_enter Tryz.func113,Tryz.ntmps113
   go_wp2_with fail
   obtain⟨W,hW⟩:∃W,W=((w.alloc (.cells #[.slice a n cap] 26)).alloc (.cells #[.int .i64 r,.slice a' n' cap'] 83)):=⟨_,rfl⟩
   have k0:=cell_regrown (w:=W) (a:=⟨w.heap.size,0,none⟩) (v:=.slice a n cap) (by rw[hW];simp);have k1:=cell_regrown (w:=W) (a:=⟨w.heap.size+1,0,none⟩) (v:=.int .i64 r) (by rw[hW];simp);have k2:=cell_regrown (w:=W) (a:=⟨w.heap.size+1,1,none⟩) (v:=.slice a' n' cap') (by rw[hW];simp);have HBW:Hid (Below w.heap.size w W):=by rw[hW];exact HB0.out _ _
   rw[←hW];have HSW:=Lib.hid (fun d os=>HS.out.below (HBW.out.trans ((below_regrown W d os).mono HBW.out.size)));have HTW:=Lib.hid (fun d os=>HT.out.below (HBW.out.trans ((below_regrown W d os).mono HBW.out.size)));clear hW;refine wp_region_quiet_below (by kernel_rfl) (by kernel_rfl) ?_
   repeat (any_goals (first|go_big_quiet_step ((first|(go_at_call 45;exact Calls.regrown_of (hS.out _ (HSW.out _ _)))|(go_at_call 98;exact Calls.regrown_of ((hI.out _).mono fun e w' ⟨he,hw⟩=>⟨he,by rw[hw];exact Below.refl _ _⟩))|(go_at_call 112;exact Calls.regrown_of (hT.out _ (HTW.out _ _)))))|quiet_step ((first|(go_at_call 45;exact Calls.regrown_of (hS.out _ (HSW.out _ _)))|(go_at_call 98;exact Calls.regrown_of ((hI.out _).mono fun e w' ⟨he,hw⟩=>⟨he,by rw[hw];exact Below.refl _ _⟩))|(go_at_call 112;exact Calls.regrown_of (hT.out _ (HTW.out _ _)))))))
   refine wpQuiet_nil ?_;intro _ hw';obtain⟨⟨dq,osq⟩,hw''⟩:=hw';subst hw'';go_wp2_with fail
   go_ret;exact⟨ret_b HQ.out.symm,bnext HBW.out (below_regrown _ _ _)⟩
  |true=>
   have h3:0≤r∧r≤n-1:=of_decide_eq_true h2;have hI:=Lib.hid (fun w=>l1In_any r 0 (n-1) w);rw[h2] at hI;obtain⟨k,rfl⟩:=Int.eq_ofNat_of_zero_le h3.1;have hk:k<n:=by omega
   have hk0:(0:Int)≤k:=by omega
   have hk1:(k:Int)<n:=by omega
   obtain⟨b,off,rfl,hbw,hc⟩:=hcell (by omega);have c1:=Lib.hid (hc k hk);by_cases h4:(l.length:Int)=s.getD k 0
   ·have HQ:Hid (isAtomB s k l=termsB l):=by
     unfold Hid isAtomB;rw[hl,h1,h2,Int.toNat_natCast,decide_eq_true h4];rfl
    rw[←h4,hl'] at c1;have q:((n':Int)==n')=true:=beq_self_eq_true _;generalize termsB l=tb at *;clear hs h hcell hcell' hl hl' hb0 h1 h2 h3 hc hbw h4;go_enter Tryz.func113,Tryz.ntmps113
    go_wp2_with fail
    obtain⟨W,hW⟩:∃W,W=((w.alloc (.cells #[.slice (some ⟨b,off,none⟩) n cap] 26)).alloc (.cells #[.int .i64 k,.slice a' n' cap'] 83)):=⟨_,rfl⟩
    have k0:=cell_regrown (w:=W) (a:=⟨w.heap.size,0,none⟩) (v:=.slice (some ⟨b,off,none⟩) n cap) (by rw[hW];simp);have k1:=cell_regrown (w:=W) (a:=⟨w.heap.size+1,0,none⟩) (v:=.int .i64 k) (by rw[hW];simp);have k2:=cell_regrown (w:=W) (a:=⟨w.heap.size+1,1,none⟩) (v:=.slice a' n' cap') (by rw[hW];simp);have HBW:Hid (Below w.heap.size w W):=by rw[hW];exact HB0.out _ _
    rw[←hW];have HSW:=Lib.hid (fun d os=>HS.out.below (HBW.out.trans ((below_regrown W d os).mono HBW.out.size)));have HTW:=Lib.hid (fun d os=>HT.out.below (HBW.out.trans ((below_regrown W d os).mono HBW.out.size)));have k3:=cell_regrown (w:=W) (a:=⟨b,off+k,none⟩) (by rw[hW];exact cellk (HB0.out _ _) c1.out);clear hW;refine wp_region_quiet_below (by kernel_rfl) (by kernel_rfl) ?_
    repeat (any_goals (first|go_big_quiet_step ((first|(go_at_call 45;exact Calls.regrown_of (hS.out _ (HSW.out _ _)))|(go_at_call 98;exact Calls.regrown_of ((hI.out _).mono fun e w' ⟨he,hw⟩=>⟨he,by rw[hw];exact Below.refl _ _⟩))|(go_at_call 112;exact Calls.regrown_of (hT.out _ (HTW.out _ _)))))|quiet_step ((first|(go_at_call 45;exact Calls.regrown_of (hS.out _ (HSW.out _ _)))|(go_at_call 98;exact Calls.regrown_of ((hI.out _).mono fun e w' ⟨he,hw⟩=>⟨he,by rw[hw];exact Below.refl _ _⟩))|(go_at_call 112;exact Calls.regrown_of (hT.out _ (HTW.out _ _)))))))
    refine wpQuiet_nil ?_;intro _ hw';obtain⟨⟨dq,osq⟩,hw''⟩:=hw';subst hw'';go_wp2_with fail
    go_ret;exact⟨ret_b HQ.out.symm,bnext HBW.out (below_regrown _ _ _)⟩
   ·have HQ:Hid (isAtomB s k l=false):=by
     unfold Hid isAtomB;rw[hl,h1,h2,Int.toNat_natCast,decide_eq_false h4];rfl
    have q:((n':Int)==s.getD k 0)=false:=by rw[←hl'];exact beq_eq_false_iff_ne.2 h4
    generalize s.getD k 0=x at *;clear hs h hcell hcell' hl hl' hb0 h1 h2 h3 hc hbw h4;go_enter Tryz.func113,Tryz.ntmps113
    go_wp2_with fail
    obtain⟨W,hW⟩:∃W,W=((w.alloc (.cells #[.slice (some ⟨b,off,none⟩) n cap] 26)).alloc (.cells #[.int .i64 k,.slice a' n' cap'] 83)):=⟨_,rfl⟩
    have k0:=cell_regrown (w:=W) (a:=⟨w.heap.size,0,none⟩) (v:=.slice (some ⟨b,off,none⟩) n cap) (by rw[hW];simp);have k1:=cell_regrown (w:=W) (a:=⟨w.heap.size+1,0,none⟩) (v:=.int .i64 k) (by rw[hW];simp);have k2:=cell_regrown (w:=W) (a:=⟨w.heap.size+1,1,none⟩) (v:=.slice a' n' cap') (by rw[hW];simp);have HBW:Hid (Below w.heap.size w W):=by rw[hW];exact HB0.out _ _
    rw[←hW];have HSW:=Lib.hid (fun d os=>HS.out.below (HBW.out.trans ((below_regrown W d os).mono HBW.out.size)));have HTW:=Lib.hid (fun d os=>HT.out.below (HBW.out.trans ((below_regrown W d os).mono HBW.out.size)));have k3:=cell_regrown (w:=W) (a:=⟨b,off+k,none⟩) (by rw[hW];exact cellk (HB0.out _ _) c1.out);clear hW;refine wp_region_quiet_below (by kernel_rfl) (by kernel_rfl) ?_
    repeat (any_goals (first|go_big_quiet_step ((first|(go_at_call 45;exact Calls.regrown_of (hS.out _ (HSW.out _ _)))|(go_at_call 98;exact Calls.regrown_of ((hI.out _).mono fun e w' ⟨he,hw⟩=>⟨he,by rw[hw];exact Below.refl _ _⟩))|(go_at_call 112;exact Calls.regrown_of (hT.out _ (HTW.out _ _)))))|quiet_step ((first|(go_at_call 45;exact Calls.regrown_of (hS.out _ (HSW.out _ _)))|(go_at_call 98;exact Calls.regrown_of ((hI.out _).mono fun e w' ⟨he,hw⟩=>⟨he,by rw[hw];exact Below.refl _ _⟩))|(go_at_call 112;exact Calls.regrown_of (hT.out _ (HTW.out _ _)))))))
    refine wpQuiet_nil ?_;intro _ hw';obtain⟨⟨dq,osq⟩,hw''⟩:=hw';subst hw'';go_wp2_with fail
    go_ret;exact⟨ret_b HQ.out.symm,bnext HBW.out (below_regrown _ _ _)⟩
end Go.Proofs.YtpedpbbiamhgdaaGreatDoor
