import Derived.Test.YtpedpbbiamhgdaaGreatDoorI7all
import Derived.Test.YtpedpbbiamhgdaaGreatDoorS7M
import Derived.Test.YtpedpbbiamhgdaaGreatDoorBase
namespace Go.Proofs.YtpedpbbiamhgdaaGreatDoor
open Go Go.RowKit
set_option linter.unusedVariables false
def conB8 (s:List Int) (a b:QueryD):Bool:=(fmN s b a).isSome
set_option maxHeartbeats 2000000 in
theorem iContained_any (w:World) (vs va vb:Value) (s:List Int) (a b:QueryD) (hs:RdSchema w vs s) (ha:RdQuery w va a) (hb:RdQuery w vb b) (hz:sizeAtomS a.2≤1048576) (hz2:sizeAtomS b.2≤1048576) :
  Calls Tryz.prog 12 #[vs,va,vb] w (GaveBool w (conB8 s a b)):=by
 have hb0:∀a b c,Below w.heap.size w (((w.alloc a).alloc b).alloc c):=fun a b c=>(((Below.refl _ _).alloc (Nat.le_refl _) _).alloc (by simp) _).alloc (by simp;omega) _
 have HB0:=Lib.hid hb0;have HF:=Lib.hid (fun W (hbW:Below w.heap.size w W)=>iFindMapping_any W vs vb va s b a (RdSchema.below hs hbW) (RdQuery.below hb hbW) (RdQuery.below ha hbW) hz2 hz);obtain⟨sa,sn,sc,rfl,hs⟩:=hs;obtain⟨fa,fn,fc,ga,gn,gc,rfl,hf1,hf2⟩:=ha;obtain⟨ta,tn,tc,ua,un,uc,rfl,ht1,ht2⟩:=hb;unfold conB8;obtain⟨p,hp⟩:∃p,(fmN s b a).isSome=p:=⟨_,rfl⟩
 rw[hp] at HF ⊢;clear hp;clear hs hf1 hf2 ht1 ht2 hz hz2 hb0;go_enter Tryz.func12,Tryz.ntmps12
 go_wp2_with fail
 obtain⟨W,hW⟩:∃W,W=((w.alloc (.cells #[.slice sa sn sc] 26)).alloc (.cells #[.slice fa fn fc,.slice ga gn gc] 29)).alloc (.cells #[.slice ta tn tc,.slice ua un uc] 29):=⟨_,rfl⟩
 have HBW:Hid (Below w.heap.size w W):=by rw[hW];exact HB0.out _ _ _
 have q0:W.cell? ⟨w.heap.size,0,none⟩=some (.slice sa sn sc):=by rw[hW];exact box1 w _ _ _ _ 0 _ rfl
 have q1:W.cell? ⟨w.heap.size+1,0,none⟩=some (.slice fa fn fc):=by rw[hW];exact box2 w _ _ _ _ 0 _ rfl
 have q2:W.cell? ⟨w.heap.size+1,1,none⟩=some (.slice ga gn gc):=by rw[hW];exact box2 w _ _ _ _ 1 _ rfl
 have q3:W.cell? ⟨w.heap.size+1+1,0,none⟩=some (.slice ta tn tc):=by rw[hW];exact box3 w _ _ _ _ 0 _ rfl
 have q4:W.cell? ⟨w.heap.size+1+1,1,none⟩=some (.slice ua un uc):=by rw[hW];exact box3 w _ _ _ _ 1 _ rfl
 rw[←hW];clear hW;refine (HF.out _ HBW.out).mono ?_;rintro e w1 ⟨yv,bs,rfl,hyi,hfr,hbb⟩;have HB1:=Lib.hid (bnext HBW.out hbb);clear hbb hyi hfr;go_wp2_with fail
 go_ret;exact⟨rfl,HB1.out⟩
end Go.Proofs.YtpedpbbiamhgdaaGreatDoor
