import Derived.Test.YtpedpbbiamhgdaaGreatDoorRows
import Derived.Test.YtpedpbbiamhgdaaGreatDoorBase
import Derived.BigQuiet
import Derived.Deep.RegionHeld3
import Derived.Deep.DeepCutAuto
namespace Go.Proofs.YtpedpbbiamhgdaaGreatDoor
open Go.RowKit
set_option linter.unusedVariables false
theorem drewN_below (w:World) (n:Nat):Below w.heap.size w (w.drewN n):=⟨rfl,rfl,rfl,Nat.le_refl _,fun _ _=>rfl⟩
theorem info_i64:(Tryz.prog.info? 3).map (fun i=>(i.zero,i.size,i.bytes))=some (some (.int .i64 0),1,8):=by kernel_rfl
theorem dec_no {l l':List Int} (j:Nat) (hj:j<l.length) (h:l.getD j 0≠l'.getD j 0):decide (l=l')=false:=decide_eq_false (fun e=>h (by rw[e]))
theorem dec_len {l l':List Int} (h:l.length≠l'.length):decide (l=l')=false:=decide_eq_false (fun e=>h (by rw[e]))
theorem dec_yes {l l':List Int} (h:l.length=l'.length) (hj:∀j,j<l.length→l.getD j 0=l'.getD j 0):decide (l=l')=true:=by
 refine decide_eq_true (List.ext_getElem h fun j h1 h2=>?_);have:=hj j h1;simpa[List.getD,List.getElem?_eq_getElem h1,List.getElem?_eq_getElem h2] using this
def RdSchema (w:World) (v:Value) (d:List Int):Prop:=∃a n c,v=.agg #[.slice a n c]∧Ints w (.slice a n c) d
theorem RdSchema.below {w w':World} {v:Value} {d:List Int} (h:RdSchema w v d) (hb:Below w.heap.size w w'):RdSchema w' v d:=by
 obtain⟨a,n,c,rfl,h⟩:=h;exact⟨a,n,c,rfl,h.below hb⟩
def RdAtom (w:World) (v:Value) (d:Int × List Int):Prop:=∃a n c,v=.agg #[.int .i64 d.1,.slice a n c]∧inI d.1∧Ints w (.slice a n c) d.2
theorem RdAtom.below {w w':World} {v:Value} {d:Int × List Int} (h:RdAtom w v d) (hb:Below w.heap.size w w'):RdAtom w' v d:=by
 obtain⟨a,n,c,rfl,hi,h⟩:=h;exact⟨a,n,c,rfl,hi,h.below hb⟩
def ROAtom (w:World) (v:Value) (d:Int × List Int) (bs:List Nat):Prop:=∃a n c,v=.agg #[.int .i64 d.1,.slice a n c]∧inI d.1∧OInts w (.slice a n c) d.2 bs
end Go.Proofs.YtpedpbbiamhgdaaGreatDoor
