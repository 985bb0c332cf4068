import Derived.Test.YtpedpbbiamhgdaaGreatDoorSq4all
import Derived.Test.YtpedpbbiamhgdaaGreatDoorAtomK
import Derived.Test.YtpedpbbiamhgdaaGreatDoorM8
namespace Go.Proofs.YtpedpbbiamhgdaaGreatDoor
open Go Go.Sort Go.RowKit
set_option linter.unusedVariables false
def apM (m:List Int) (t:Int):Int:=if inB t 0 (m.length-1) then (if m.getD t.toNat 0=-1000 then t else m.getD t.toNat 0) else t
theorem apM_out {m:List Int} {t:Int} (h:t<0∨(m.length:Int)≤t):apM m t=t:=by
 unfold apM;rw[show inB t 0 ((m.length:Int)-1)=false from decide_eq_false (by omega),if_neg (by simp)]
theorem apM_at {m:List Int} {k:Nat} (h:k<m.length):apM m (k:Int)=if m.getD k 0=-1000 then (k:Int) else m.getD k 0:=by
 unfold apM;rw[show inB (k:Int) 0 ((m.length:Int)-1)=true from decide_eq_true (by omega),if_pos rfl,Int.toNat_natCast]
theorem iApply_any (w:World) (t:Int) (v:Value) (m:List Int) (h:Ints w v m) :
  Calls Tryz.prog 203 #[v,.int .i64 t] w (fun e w'=>e=.returned (.int .i64 (apM m t))∧w=w'):=by
 obtain⟨a,n,cap,rfl,hl,hn,hm,hcell⟩:=h.cases;unfold maxLen at hm;by_cases h0:t<0
 ·have HQ:Hid (apM m t=t):=apM_out (.inl h0);clear h hcell hl;go_enter Tryz.func203,Tryz.ntmps203
  go_wp2_with fail
  go_ret;exact⟨ret_n HQ.out.symm,rfl⟩
 ·by_cases h1:t<n
  ·obtain⟨k,rfl⟩:=Int.eq_ofNat_of_zero_le (by omega:0≤t);have hk:k<n:=by omega
   obtain⟨b,off,rfl,hbw,hc⟩:=hcell (by omega);have c1:=hc k hk;have HQ:=Lib.hid (apM_at (m:=m) (k:=k) (by omega));have hi0:(0:Int)≤k:=by omega
   have hi2:¬((n:Int)≤k):=by omega
   generalize m.getD k 0=y at *;by_cases hu:y=-1000
   ·have HQ1:Hid (apM m (k:Int)=(k:Int)):=by unfold Hid;rw[HQ.out,if_pos hu]
    subst hu;clear h hc hbw hcell hl;go_enter Tryz.func203,Tryz.ntmps203
    go_wp2_with fail
    go_ret;exact⟨ret_n HQ1.out.symm,rfl⟩
   ·have hu2:(y == -1000)=false:=by simpa using hu
    have HQ1:Hid (apM m (k:Int)=y):=by unfold Hid;rw[HQ.out,if_neg hu]
    clear h hc hbw hcell hl hu;go_enter Tryz.func203,Tryz.ntmps203
    go_wp2_with fail
    go_ret;exact⟨ret_n HQ1.out.symm,rfl⟩
  ·have HQ:Hid (apM m t=t):=apM_out (.inr (by rw[hl];omega));have h2:(n:Int)≤t:=by omega
   clear h hcell hl;go_enter Tryz.func203,Tryz.ntmps203
   go_wp2_with fail
   go_ret;exact⟨ret_n HQ.out.symm,rfl⟩
end Go.Proofs.YtpedpbbiamhgdaaGreatDoor
