import Derived.Test.YtpedpbbiamhgdaaGreatDoorMatoms
namespace Go.Proofs.YtpedpbbiamhgdaaGreatDoor
open Go.RowKit
set_option linter.unusedVariables false
abbrev QueryD:=List Int × List AtomD
def RdQuery (w:World) (v:Value) (d:QueryD):Prop:=∃a n c a' n' c',v=.agg #[.slice a n c,.slice a' n' c']∧Ints w (.slice a n c) d.1∧RdSl 2 CsAtom w (.slice a' n' c') d.2
def ROQuery (w:World) (v:Value) (d:QueryD) (bs:List Nat):Prop:=∃a n c a' n' c',v=.agg #[.slice a n c,.slice a' n' c']∧∃b1 b2,OInts w (.slice a n c) d.1 b1∧ROSl 2 COAtom w (.slice a' n' c') d.2 b2∧bs=b1++b2
theorem RdQuery.below {w w':World} {v:Value} {d:QueryD} (h:RdQuery w v d) (hb:Below w.heap.size w w'):RdQuery w' v d:=by
 obtain⟨a,n,c,a',n',c',rfl,h1,h2⟩:=h;exact⟨a,n,c,a',n',c',rfl,h1.below hb,RdSl.below h2 (fun _ _ h=>h.below hb) hb⟩
theorem ROQuery.rd {w:World} {v:Value} {d:QueryD} {bs:List Nat} (h:ROQuery w v d bs):RdQuery w v d:=by
 obtain⟨a,n,c,a',n',c',rfl,b1,b2,h1,h2,rfl⟩:=h;exact⟨a,n,c,a',n',c',rfl,h1.1,ROSl.rd h2 (fun _ _ _ h=>h.rd)⟩
theorem ROQuery.onlyAt {w w':World} {v:Value} {d:QueryD} {bs bs':List Nat} (h:ROQuery w v d bs) (k:OnlyAt bs' w w') (hn:∀b∈bs,b∉bs'):ROQuery w' v d bs:=by
 obtain⟨a,n,c,a',n',c',rfl,b1,b2,h1,h2,rfl⟩:=h;exact⟨a,n,c,a',n',c',rfl,b1,b2,h1.onlyAt k (fun x hx=>hn x (by simp[hx])),ROSl.onlyAt h2 k (fun x hx=>hn x (by simp[hx])) (fun _ _ _ hn h=>h.onlyAt hn k),rfl⟩
def sizeQuery (d:QueryD):Nat:=d.1.length+sizeAtomS d.2
end Go.Proofs.YtpedpbbiamhgdaaGreatDoor
