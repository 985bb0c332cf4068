import Derived.Test.YtpedpbbiamhgdaaGreatDoorI6all
import Derived.Test.YtpedpbbiamhgdaaGreatDoorI6srt
import Derived.Test.YtpedpbbiamhgdaaGreatDoorS6all
import Derived.Test.YtpedpbbiamhgdaaGreatDoorI5copy
import Derived.Test.YtpedpbbiamhgdaaGreatDoorBase
namespace Go.Proofs.YtpedpbbiamhgdaaGreatDoor
open Go Go.Sort Go.RowKit
set_option linter.unusedVariables false
def answersN (s:List Int) (d:QueryD) (db:List AtomD):List (List Int):=sortL ((bindingsN s d db).map (tupL d.1)) true
theorem searchN_row20 (db:List AtomD) (al:List AtomD) (b:List Int) (h:b.length=40):∀x∈searchN db al b,x.length=20:=by
 induction al generalizing b with
 |nil=>intro x hx;simp[searchN] at hx;subst hx;rw[List.length_take,h];rfl
 |cons a al ih=>
  intro x hx;rw[searchN_cons] at hx;obtain⟨f,_,hf⟩:=List.mem_flatMap.1 hx;unfold hitN at hf
  split at hf
  ·split at hf
   ·rename_i b' hb'
    exact ih b' (by rw[bindL_len hb',h]) x hf
   ·cases hf
  ·cases hf
theorem bindings_row {s:List Int} {d:QueryD} {db:List AtomD}:∀b∈bindingsN s d db,∀t∈d.1,t<b.length:=by
 intro b hb t ht;unfold bindingsN at hb
 split at hb
 ·rename_i h
  rw[searchN_row20 _ _ _ (by simp[emptyB]) b (sortL_mem b hb)];exact ((fine_head h.1).1 t ht).2
 ·cases hb
theorem bindings_len (s:List Int) (d:QueryD) (db:List AtomD):(bindingsN s d db).length≤331776:=by
 unfold bindingsN
 split
 ·rename_i h
  rw[←sortTo_all];exact Nat.le_trans (sortTo_len _ _ _) (searchN_most _ h.1 h.2)
 ·simp
set_option maxRecDepth 100000 in
set_option maxHeartbeats 8000000 in
theorem sAnswers_any (w:World) (vs vq vdb:Value) (s:List Int) (d:QueryD) (db:List AtomD) (hs:RdSchema w vs s) (hq:RdQuery w vq d) (hdb:RdAtomS w vdb db) (hsz:sizeAtomS d.2≤1048576) (hsz1:d.1.length≤1048576) :
  Calls Tryz.prog 19 #[vs,vq,vdb] w (GaveO (fun w' v' bs=>ROIntSS w' v' (answersN s d db) bs) w):=by
 obtain⟨a0,n0,c0,a1,n1,c1,e,_⟩:=id hq;subst e;obtain⟨sa,sn,sc,e,_⟩:=id hs;subst e;have HB:=Lib.hid (fun w' (hb:Below w.heap.size w w')=>sBindings_any w' _ _ _ s d db (hs.below hb) (hq.below hb) (hdb.below hb) hsz);have HH:=Lib.hid (fun w' vb (hb:Below w.heap.size w w') hr=>sHeads6_any w' _ vb d (bindingsN s d db) (hq.below hb) hr hsz1 (Nat.le_trans (bindings_len s d db) (by decide)) bindings_row)
 have HS:=Lib.hid (fun w' v hr=>sSort6_any w' v ((bindingsN s d db).map (tupL d.1)) true hr (fun x hx=>by
  obtain⟨b,_,rfl⟩:=List.mem_map.1 hx;rw[tupL,List.length_map];exact hsz1) (by rw[List.length_map];exact Nat.le_trans (bindings_len s d db) (by decide)))
 clear hs hq hdb hsz hsz1;go_enter Tryz.func19,Tryz.ntmps19
 go_wp2_with fail
 have hb2:Below w.heap.size w ((w.alloc (.cells #[.slice sa sn sc] 26)).alloc (.cells #[.slice a0 n0 c0,.slice a1 n1 c1] 29)):=((Below.refl _ _).alloc (Nat.le_refl _) _).alloc (by simp) _;have k0:((w.alloc (.cells #[.slice sa sn sc] 26)).alloc (.cells #[.slice a0 n0 c0,.slice a1 n1 c1] 29)).cell? ⟨w.heap.size,0,none⟩=some (.slice sa sn sc):=by simp
 have k1:((w.alloc (.cells #[.slice sa sn sc] 26)).alloc (.cells #[.slice a0 n0 c0,.slice a1 n1 c1] 29)).cell? ⟨w.heap.size+1,0,none⟩=some (.slice a0 n0 c0):=by simp
 have k2:((w.alloc (.cells #[.slice sa sn sc] 26)).alloc (.cells #[.slice a0 n0 c0,.slice a1 n1 c1] 29)).cell? ⟨w.heap.size+1,1,none⟩=some (.slice a1 n1 c1):=by simp
 generalize (w.alloc (.cells #[.slice sa sn sc] 26)).alloc (.cells #[.slice a0 n0 c0,.slice a1 n1 c1] 29)=w2 at *;have HB2:=Lib.hid hb2;clear hb2
 go_region_law (first
  |(go_simp;go_at_call 54;refine (HB.out _ (HB2.out.trans ((Below.refl _ _).drew.mono HB2.out.size))).mono ?_;rintro e3 w3 ⟨v3,bs3,rfl,ho3,hf3,hb3⟩;have HB3:=Lib.hid (bnext (Below.refl w2.heap.size w2).drew hb3);have HO3:=Lib.hid ho3;have HW3:=Lib.hid (bnext HB2.out HB3.out);have k13:=cellk HB3.out k1;have k23:=cellk HB3.out k2;have k03:=cellk HB3.out k0;clear ho3 hf3 hb3)
  |(go_simp;go_at_call 53;refine (HH.out _ v3 HW3.out HO3.out.rd).mono ?_;rintro e4 w4 ⟨v4,bs4,rfl,ho4,hf4,hb4⟩;have HO4:=Lib.hid ho4;have HW4:=Lib.hid (bnext HW3.out hb4);clear ho4 hf4 hb4)
  |(go_simp;go_at_call 52;refine (HS.out _ v4 HO4.out.rd).mono ?_;rintro e5 w5 ⟨v5,bs5,rfl,ho5,hf5,hb5⟩;have HO5:=Lib.hid ho5;have HF5:=Lib.hid (hf5.wide HW4.out.size (Nat.le_refl _):Fresh w w5 bs5);have HW5:=Lib.hid (bnext HW4.out hb5);clear ho5 hf5 hb5))
 all_goals (go_wp2_with fail)
 all_goals go_ret
 all_goals exact⟨_,bs5,rfl,HO5.out,HF5.out,HW5.out⟩
end Go.Proofs.YtpedpbbiamhgdaaGreatDoor
namespace Go.Proofs.YtpedpbbiamhgdaaGreatDoor
open Go Go.Sort Go.RowKit Go.Shelf
set_option linter.unusedVariables false
attribute [local go_sem] Oper.semAt_some
end Go.Proofs.YtpedpbbiamhgdaaGreatDoor
