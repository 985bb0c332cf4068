import Derived.Test.YtpedpbbiamhgdaaGreatDoorSatom
namespace Go.Proofs.YtpedpbbiamhgdaaGreatDoor
open Go Go.Sort Go.RowKit
set_option linter.unusedVariables false
set_option maxHeartbeats 1000000 in
theorem wInts_nil (w:World) (a a':Option Addr) (cap cap':Nat) :
  Calls Tryz.prog 121 #[.slice a 0 cap,.slice a' 0 cap'] w (GaveBool w true):=by
 go_enter Tryz.func121,Tryz.ntmps121
 go_wp2_with fail
 refine wp_loop_rounds 1 ?_;rw[rounds_succ];go_wp2_with fail
 go_ret;exact⟨rfl,Below.refl _ _⟩
set_option maxHeartbeats 1000000 in
theorem wInts_len (w:World) (a a':Option Addr) (len len' cap cap':Nat) (hne:len≠len') (h1:len≤maxLen) (h2:len'≤maxLen) :
  Calls Tryz.prog 121 #[.slice a len cap,.slice a' len' cap'] w (GaveBool w false):=by
 unfold maxLen at h1 h2;have q:((len:Int) != len')=true:=by simp;omega
 clear hne;go_enter Tryz.func121,Tryz.ntmps121
 go_wp2_with fail
 go_ret;exact⟨rfl,Below.refl _ _⟩
set_option maxHeartbeats 1000000 in
theorem wInts_row (w:World) (b off len cap b' off' cap':Nat) (l l':List Int) (hl:l.length=len) (hl':l'.length=len) (hm:len≤maxLen)
  (hc:∀j,j<len→w.cell? ⟨b,off+j,none⟩=some (.int .i64 (l.getD j 0))) (hc':∀j,j<len→w.cell? ⟨b',off'+j,none⟩=some (.int .i64 (l'.getD j 0))) :
  Calls Tryz.prog 121 #[.slice (some ⟨b,off,none⟩) len cap,.slice (some ⟨b',off',none⟩) len cap'] w (GaveBool w (decide (l=l'))):=by
 unfold maxLen at hm;have HC:=Lib.hid hc;have HC':=Lib.hid hc';have HL:=Lib.hid hl;have HL':=Lib.hid hl';clear hc hc' hl hl';go_enter Tryz.func121,Tryz.ntmps121
 go_wp2_with fail
 go_loopw [5] (fun iv wr=>∃i:Nat,i≤len∧iv=.int .i64 i∧Below w.heap.size w wr∧Hid (∀j,j<i→l.getD j 0=l'.getD j 0)) (fun iv _=>len-(intOf iv).toNat)
 case atStart=>exact⟨0,by omega,rfl,Below.refl _ _,fun j hj=>by omega⟩
 case round=>
  obtain⟨i,hi,rfl,hb,HE⟩:=hrel;have HB:=Lib.hid hb;by_cases hlt:i<len
  ·have c1:=cellk hb (HC.out i hlt);have c2:=cellk hb (HC'.out i hlt);have hi0:(0:Int)≤i:=by omega
   have hi1:(i:Int)<len:=by omega
   clear hb;by_cases heq:l.getD i 0=l'.getD i 0
   ·have HQ:=Lib.hid (fun j (e:j=i)=>(by rw[e];exact heq:l.getD j 0=l'.getD j 0));rw[←heq] at c2;clear heq;generalize l.getD i 0=x at *;go_wp2_with fail
    go_quiet (fail)
    go_wp2_with fail
    refine⟨⟨i+1,by omega,by simp,bnext HB.out (drewN_below _ _),fun j hj=>?_⟩,by simp[intOf];omega⟩;rcases Nat.lt_or_ge j i with h|h
    ·exact HE.out j h
    ·exact HQ.out j (by omega)
   ·have HQ:=Lib.hid (dec_no i (by rw[HL.out];exact hlt) heq);have q:(l.getD i 0 != l'.getD i 0)=true:=bne_iff_ne.2 heq;clear heq;generalize l.getD i 0=x at *;generalize l'.getD i 0=y at *;go_wp2_with fail
    go_quiet (fail)
    go_wp2_with fail
    go_ret;exact⟨ret_b HQ.out.symm,bnext HB.out (drewN_below _ _)⟩
  ·obtain rfl:i=len:=by omega
   have HQ:=Lib.hid (dec_yes (l:=l) (l':=l') (by rw[HL.out,HL'.out]) (fun j hj=>HE.out j (by rw[←HL.out];exact hj)));clear hb;go_wp2_with fail
   go_ret;exact⟨ret_b HQ.out.symm,HB.out⟩
theorem wInts_any (w:World) (v v':Value) (l l':List Int) (h:Ints w v l) (h':Ints w v' l') :
  Calls Tryz.prog 121 #[v,v'] w (GaveBool w (decide (l=l'))):=by
 have k1:=h.len_le;have k2:=h'.len_le;by_cases hlen:l.length=l'.length
 ·rcases h.2 with⟨a,cap,rfl,_,rfl⟩|⟨b,off,len,cap,rfl,hl,h1,h2,hlt,hc⟩
  ·rcases h'.2 with⟨a',cap',rfl,_,rfl⟩|⟨b',off',len',cap',rfl,hl',h1',h2',hlt',hc'⟩
   ·exact wInts_nil w a a' cap cap'
   ·obtain rfl:l'=[]:=List.eq_nil_of_length_eq_zero (by rw[←hlen];rfl);obtain rfl:len'=0:=hl'.symm;exact wInts_nil w a _ cap cap'
  ·rcases h'.2 with⟨a',cap',rfl,_,rfl⟩|⟨b',off',len',cap',rfl,hl',h1',h2',hlt',hc'⟩
   ·obtain rfl:l=[]:=List.eq_nil_of_length_eq_zero (by rw[hlen];rfl);obtain rfl:len=0:=hl.symm;exact wInts_nil w _ a' cap cap'
   ·obtain rfl:len=len':=by omega
    exact wInts_row w b off len cap b' off' cap' l l' hl hl' (by omega) hc hc'
 ·rw[dec_len hlen]
  have form:∀{v:Value} {l:List Int},Ints w v l→∃a cap,v=.slice a l.length cap:=by
   intro v l h;rcases h.2 with⟨a,cap,rfl,_,rfl⟩|⟨b,off,len,cap,rfl,rfl,_⟩
   ·exact⟨a,cap,rfl⟩
   ·exact⟨_,cap,rfl⟩
  obtain⟨a,cap,rfl⟩:=form h;obtain⟨a',cap',rfl⟩:=form h';exact wInts_len w a a' _ _ cap cap' hlen k1 k2
end Go.Proofs.YtpedpbbiamhgdaaGreatDoor
