import Derived.Test.YtpedpbbiamhgdaaGreatDoorS7M
import Derived.Test.YtpedpbbiamhgdaaGreatDoorSfineV
import Derived.Test.YtpedpbbiamhgdaaGreatDoorSq4all
import Derived.Test.YtpedpbbiamhgdaaGreatDoorC8con
import Derived.Test.YtpedpbbiamhgdaaGreatDoorSrename3
import Derived.Test.YtpedpbbiamhgdaaGreatDoorBase
import Derived.Deep.RegionLaw
import Derived.Deep.RegionHeld3
import Derived.Lib.QuietBelow
import Derived.BigQuiet
namespace Go.Proofs.YtpedpbbiamhgdaaGreatDoor
open Go Go.RowKit
set_option linter.unusedVariables false
theorem termTo_nil9 (t:Int):termTo [] t=t:=by
 unfold termTo
 have h:inB t 0 ((([]:List Int).length:Int)-1)=false:=by
  simp[inB];omega
 rw[h];rfl
theorem map_nil9 (l:List Int):l.map (termTo [])=l:=by
 induction l with
 |nil=>rfl
 |cons a l ih=>rw[List.map_cons,ih,termTo_nil9]
theorem renA_nil9 (l:List AtomD):l.map (renA [])=l:=by
 induction l with
 |nil=>rfl
 |cons a l ih=>rw[List.map_cons,ih];unfold renA;rw[map_nil9]
theorem renQ_nil9 (d:QueryD):renQ d []=d:=by
 unfold renQ;rw[map_nil9,renA_nil9]
def ddA (l:List AtomD):List AtomD:=l.foldl (fun acc a=>if a∈acc then acc else acc++[a]) []
theorem ddA_snoc (l:List AtomD) (a:AtomD):ddA (l++[a])=if a∈ddA l then ddA l else ddA l++[a]:=by
 unfold ddA;rw[List.foldl_append];rfl
theorem ddA_take {l:List AtomD} {i:Nat} {a:AtomD} (h:l[i]?=some a):ddA (l.take (i+1))=if a∈ddA (l.take i) then ddA (l.take i) else ddA (l.take i)++[a]:=by
 obtain⟨hi,rfl⟩:=List.getElem?_eq_some_iff.1 h;rw[List.take_succ_eq_append_getElem hi,ddA_snoc]
theorem ddA_mem (l:List AtomD):∀a,a∈ddA l↔a∈l:=by
 have H:∀(l acc:List AtomD) (a:AtomD),a∈l.foldl (fun acc a=>if a∈acc then acc else acc++[a]) acc↔a∈acc∨a∈l:=by
  intro l
  induction l with
  |nil=>intro acc a;simp
  |cons x l ih=>
   intro acc a;rw[List.foldl_cons,ih]
   split
   ·rename_i hx
    constructor
    ·rintro (h|h)
     ·exact .inl h
     ·exact .inr (List.mem_cons_of_mem _ h)
    ·rintro (h|h)
     ·exact .inl h
     ·rcases List.mem_cons.1 h with rfl|h
      ·exact .inl hx
      ·exact .inr h
   ·rw[List.mem_append,List.mem_singleton,List.mem_cons];constructor
    ·rintro ((h|h)|h)
     ·exact .inl h
     ·exact .inr (.inl h)
     ·exact .inr (.inr h)
    ·rintro (h|h|h)
     ·exact .inl (.inl h)
     ·exact .inl (.inr h)
     ·exact .inr h
 intro a;unfold ddA;rw[H];simp
theorem ddA_size (l:List AtomD):sizeAtomS (ddA l)≤sizeAtomS l:=by
 have H:∀(l acc:List AtomD),sizeAtomS (l.foldl (fun acc a=>if a∈acc then acc else acc++[a]) acc)≤sizeAtomS acc+sizeAtomS l:=by
  intro l
  induction l with
  |nil=>intro acc;simp[sizeAtomS,sumArgs]
  |cons x l ih=>
   intro acc;rw[List.foldl_cons];refine Nat.le_trans (ih _) ?_
   split
   ·simp[sizeAtomS,sumArgs];omega
   ·simp[sizeAtomS,sumArgs];omega
 have:=H l [];unfold ddA;simpa[sizeAtomS,sumArgs] using this
theorem ddA_len (l:List AtomD):(ddA l).length≤l.length:=by
 have H:∀(l acc:List AtomD),(l.foldl (fun acc a=>if a∈acc then acc else acc++[a]) acc).length≤acc.length+l.length:=by
  intro l
  induction l with
  |nil=>intro acc;simp
  |cons x l ih=>
   intro acc;rw[List.foldl_cons];refine Nat.le_trans (ih _) ?_
   split
   ·simp<;>omega
   ·simp<;>omega
 have:=H l [];unfold ddA;simpa using this
def ddQ (q:QueryD):QueryD:=(q.1,ddA q.2)
end Go.Proofs.YtpedpbbiamhgdaaGreatDoor
namespace Go.Proofs.YtpedpbbiamhgdaaGreatDoor
open Go Go.Sort Go.RowKit
set_option linter.unusedVariables false
def SlB (w:World) (B:Nat):Prop:=∀o x,w.cell? ⟨B,o,none⟩=some x→∃a n c,x=.slice a n c
theorem SlB.below {w w':World} {B:Nat} (h:SlB w B) (hlt:B<w.heap.size) (hb:Below w.heap.size w w'):SlB w' B:=fun o x hx=>h o x (by rw[←hb.cell (p:=⟨B,o,none⟩) hlt];exact hx)
theorem SlB.new (w:World) (a a':Option Addr) (n c n' c':Nat) (T:TypeId):SlB (w.alloc (.cells #[.slice a n c,.slice a' n' c'] T)) w.heap.size:=by
 intro o x hx;unfold World.cell? at hx;rw[heap_alloc_new w] at hx
 match o,hx with
 |0,hx=>simp at hx;exact⟨_,_,_,hx.symm⟩
 |1,hx=>simp at hx;exact⟨_,_,_,hx.symm⟩
 |k+2,hx=>simp at hx
theorem Ints.offS {w w':World} {v:Value} {l:List Int} {B:Nat} (h:Ints w v l) (ko:OnlyAt [B] w w') (hB:SlB w B):Ints w' v l:=by
 refine h.onlyAt ko fun b off n c hv hn hb=>?_
 obtain⟨a,n',cap,e,hl,hn',hm,hc⟩:=h.cases;rw[hv] at e;cases e;obtain⟨b2,off2,e2,hlt,hc⟩:=hc hn
 cases e2;have hbB:b=B:=by simpa using hb
 subst hbB;obtain⟨_,_,_,e3⟩:=hB _ _ (hc 0 hn)
 cases e3
theorem RdQuery.offS {w w':World} {v:Value} {d:QueryD} {B:Nat} (h:RdQuery w v d) (ko:OnlyAt [B] w w') (hB:SlB w B):RdQuery w' v d:=by
 obtain⟨a,n,c,a',n',c',rfl,hi,ha⟩:=h;refine⟨a,n,c,a',n',c',rfl,hi.offS ko hB,?_⟩;obtain⟨a2,n2,cap,e,hl,hn',hm,hc⟩:=ha
 cases e;refine⟨_,_,_,rfl,hl,hn',hm,fun h0=>?_⟩;obtain⟨b,off,rfl,hlt,hc⟩:=hc h0;refine⟨b,off,rfl,Nat.lt_of_lt_of_le hlt ko.size,fun j hj=>?_⟩
 have hne:b∉[B]:=by
  intro hb;have hbB:b=B:=by simpa using hb
  subst hbB;obtain⟨cs,hcs,hcl,_,_,_,rfl,_⟩:=hc 0 (by omega);obtain⟨_,_,_,e3⟩:=hB _ _ ((hcl 0 (by omega)).trans (by rfl))
  cases e3
 obtain⟨cs,h1,h2,ea,en,ec,rfl,hi3,hint⟩:=hc j hj;exact⟨_,h1,fun i hi=>by rw[←h2 i hi];exact World.cell?_of_block (ko.block b hlt hne),ea,en,ec,rfl,hi3,hint.offS ko hB⟩
theorem Ints.lit0 (w:World) (a:Option Addr):Ints w (.slice a 0 0) []:=⟨fun x h=>by simp at h,.inl ⟨a,0,rfl,Nat.zero_le _,rfl⟩⟩
theorem SlB.newAt {w W:World} {B:Nat} {a a':Option Addr} {n c n' c':Nat} {T:TypeId} (h:W.heap[B]?=some (.cells #[.slice a n c,.slice a' n' c'] T)):SlB W B:=by
 intro o x hx;unfold World.cell? at hx;rw[h] at hx
 match o,hx with
 |0,hx=>simp at hx;exact⟨_,_,_,hx.symm⟩
 |1,hx=>simp at hx;exact⟨_,_,_,hx.symm⟩
 |k+2,hx=>simp at hx
theorem newFrz (w:World) (cs:Array Value) (T:TypeId) (i:Nat):(w.alloc (.cells cs T)).frozen? ⟨w.heap.size,i,none⟩=false:=by simp
theorem frz2 (w:World) (o1:Obj) (cs:Array Value) (T:TypeId) (o3:Obj) (i:Nat) (v:Value) (h:cs[i]?=some v):(((w.alloc o1).alloc (.cells cs T)).alloc o3).frozen? ⟨w.heap.size+1,i,none⟩=false:=by
 have e:(w.alloc o1).heap.size=w.heap.size+1:=by simp
 have h1:=newBox (w.alloc o1) cs T i v h;have h2:=newFrz (w.alloc o1) cs T i;rw[e] at h1 h2;exact frok (below_alloc _ _) h1 h2
theorem frz3 (w:World) (o1 o2:Obj) (cs:Array Value) (T:TypeId) (i:Nat):(((w.alloc o1).alloc o2).alloc (.cells cs T)).frozen? ⟨w.heap.size+1+1,i,none⟩=false:=by
 have e:((w.alloc o1).alloc o2).heap.size=w.heap.size+1+1:=by simp
 have h2:=newFrz ((w.alloc o1).alloc o2) cs T i;rw[e] at h2;exact h2
def GaveQ (w:World) (d:QueryD) (e:Ending) (w':World):Prop:=∃a n c a' n' c',e=.returned (.agg #[.slice a n c,.slice a' n' c'])∧RdQuery w' (.agg #[.slice a n c,.slice a' n' c']) d∧Below w.heap.size w w'
set_option maxHeartbeats 4000000 in
theorem sCopy_any (w:World) (v:Value) (d:QueryD) (h:RdQuery w v d) (hs1:d.1.length≤1048576) (hs2:sizeAtomS d.2≤1048576) :
  Calls Tryz.prog 90 #[v] w (GaveQ w d):=by
 have HR:=Lib.hid (fun W (hb:Below w.heap.size w W) vt (ht:Ints W vt [])=>sRenameQuery_any W v vt d [] (RdQuery.below h hb) ht hs1 hs2);rw[renQ_nil9] at HR;obtain⟨a0,n0,c0,a,n,c,rfl,hi,ha⟩:=h;have hb0:∀a b c,Below w.heap.size w (((w.alloc a).alloc b).alloc c):=fun a b c=>(((Below.refl _ _).alloc (Nat.le_refl _) _).alloc (by simp) _).alloc (by simp;omega) _
 have HB0:=Lib.hid hb0;clear hi ha hb0 hs1 hs2;go_enter Tryz.func90,Tryz.ntmps90
 go_wp2_with fail
 obtain⟨W,hW⟩:∃W,W=((w.alloc (.cells #[.slice a0 n0 c0,.slice a n c] 29)).alloc (.cells #[.slice none 0 0,.slice none 0 0] 29)).alloc (.cells #[] 3):=⟨_,rfl⟩
 have HBW:Hid (Below w.heap.size w W):=by rw[hW];exact HB0.out _ _ _
 have k0:W.cell? ⟨w.heap.size+1,0,none⟩=some (.slice none 0 0):=by rw[hW];exact box2 w _ _ _ _ 0 _ rfl
 have k1:W.cell? ⟨w.heap.size+1,1,none⟩=some (.slice none 0 0):=by rw[hW];exact box2 w _ _ _ _ 1 _ rfl
 have f0:W.frozen? ⟨w.heap.size+1,0,none⟩=false:=by rw[hW];exact frz2 w _ _ _ _ 0 _ rfl
 have f1:W.frozen? ⟨w.heap.size+1,1,none⟩=false:=by rw[hW];exact frz2 w _ _ _ _ 1 _ rfl
 have hsl:SlB W (w.heap.size+1):=by
  rw[hW];refine SlB.below (w:=(w.alloc (.cells #[.slice a0 n0 c0,.slice a n c] 29)).alloc (.cells #[.slice none 0 0,.slice none 0 0] 29)) ?_ (by simp) (below_alloc _ _);have:=SlB.new (w.alloc (.cells #[.slice a0 n0 c0,.slice a n c] 29)) none none 0 0 0 0 29;simpa using this
 have hsz:w.heap.size+1<W.heap.size:=by rw[hW];simp
 rw[←hW];clear hW;refine (HR.out _ HBW.out _ (Ints.lit0 _ _)).mono ?_;rintro e w1 ⟨r,rfl,hr,hb⟩;replace f0:=frok hb k0 f0;replace f1:=frok hb k1 f1;replace k0:=cellk hb k0;replace k1:=cellk hb k1;have HSL:=Lib.hid (hsl.below hsz hb);have HB1:=Lib.hid (bnext HBW.out hb);have HR1:=Lib.hid hr;obtain⟨ra,rn,rc,ra',rn',rc',rfl,_,_⟩:=hr;clear hb hsl hsz HR;go_wp2_with fail
 have hk:OnlyAt [w.heap.size+1] w1 ((w1.setCell ⟨w.heap.size+1,0,none⟩ (.slice ra rn rc)).setCell ⟨w.heap.size+1,1,none⟩ (.slice ra' rn' rc')):=(OnlyAt.setCell w1 _ _ _).same (OnlyAt.setCell _ _ _ _);exact bodyPost_ret (v:=.agg #[.slice ra rn rc,.slice ra' rn' rc']) (by simp[results,Tryz.results90,go_sem,k0,k1]) rfl ⟨_,_,_,_,_,_,rfl,HR1.out.offS hk HSL.out,OnlyAt.below HB1.out hk (fun x hx=>by simp at hx;omega)⟩
theorem zbk {w w':World} {B:Nat} {o:Obj} (hb:Below w.heap.size w w') (hz:w.heap[B]?=some o):w'.heap[B]?=some o:=(hb.block B (Array.getElem?_eq_some_iff.1 hz).1).trans hz
theorem zb_lt {w:World} {B:Nat} {o:Obj} (hz:w.heap[B]?=some o):B<w.heap.size:=(Array.getElem?_eq_some_iff.1 hz).1
def LaidR (w0:World) (q:QueryD) (wx:World) (B:Nat) (a:Option Addr) (n c:Nat) (a':Option Addr) (n' c':Nat):Prop:=
 wx.cell? ⟨B,0,none⟩=some (.slice a n c)∧wx.cell? ⟨B,1,none⟩=some (.slice a' n' c')∧RdQuery wx (.agg #[.slice a n c,.slice a' n' c']) q∧w0.heap.size≤B∧B<wx.heap.size∧Below w0.heap.size w0 wx
theorem zb_cell {w:World} {B:Nat} {T:TypeId} {x y:Value} (hz:w.heap[B]?=some (.cells #[x,y] T)):w.cell? ⟨B,0,none⟩=some x∧w.cell? ⟨B,1,none⟩=some y:=by
 unfold World.cell?;rw[hz];exact⟨by simp,by simp⟩
theorem zb_froz {w:World} {B:Nat} {T:TypeId} {x y:Value} (hz:w.heap[B]?=some (.cells #[x,y] T)):w.frozen? ⟨B,0,none⟩=false∧w.frozen? ⟨B,1,none⟩=false:=by
 unfold World.frozen?;rw[hz];exact⟨by simp,by simp⟩
theorem laid_cells {w:World} {B:Nat} {x y u u':Value} (h0:w.cell? ⟨B,0,none⟩=some x) (h1:w.cell? ⟨B,1,none⟩=some y):((w.setCell ⟨B,0,none⟩ u).setCell ⟨B,1,none⟩ u').cell? ⟨B,0,none⟩=some u∧((w.setCell ⟨B,0,none⟩ u).setCell ⟨B,1,none⟩ u').cell? ⟨B,1,none⟩=some u':=by
 have e1:(w.setCell ⟨B,0,none⟩ u).cell? ⟨B,0,none⟩=some u:=World.cell?_setCell_same _ _ _ h0;have e2:(w.setCell ⟨B,0,none⟩ u).cell? ⟨B,1,none⟩=some y:=by rw[World.cell?_setCell_other _ _ _ _ (by intro e;cases e)];exact h1
 refine⟨?_,World.cell?_setCell_same _ _ _ e2⟩;rw[World.cell?_setCell_other _ _ _ _ (by intro e;cases e)];exact e1
theorem laidR_set {w0 ws:World} {q:QueryD} {B:Nat} {a:Option Addr} {n c:Nat} {a':Option Addr} {n' c':Nat} {T:TypeId} (hr:RdQuery ws (.agg #[.slice a n c,.slice a' n' c']) q) (hz:ws.heap[B]?=some (.cells #[.slice none 0 0,.slice none 0 0] T)) (hB:w0.heap.size≤B) (hb:Below w0.heap.size w0 ws) :
  LaidR w0 q ((ws.setCell ⟨B,0,none⟩ (.slice a n c)).setCell ⟨B,1,none⟩ (.slice a' n' c')) B a n c a' n' c':=by
 have hk:OnlyAt [B] ws ((ws.setCell ⟨B,0,none⟩ (.slice a n c)).setCell ⟨B,1,none⟩ (.slice a' n' c')):=(OnlyAt.setCell ws _ _ _).same (OnlyAt.setCell _ _ _ _);obtain⟨z0,z1⟩:=zb_cell hz;obtain⟨e0,e1⟩:=laid_cells (u:=.slice a n c) (u':=.slice a' n' c') z0 z1;exact⟨e0,e1,hr.offS hk (SlB.newAt (w:=ws) hz),hB,Nat.lt_of_lt_of_le (zb_lt hz) hk.size,OnlyAt.below hb hk (fun b hb'=>by simp at hb';omega)⟩
theorem laidR_new {w0 ws:World} {q:QueryD} {a:Option Addr} {n c:Nat} {a':Option Addr} {n' c':Nat} {T:TypeId} (hr:RdQuery ws (.agg #[.slice a n c,.slice a' n' c']) q) (hb:Below w0.heap.size w0 ws) :
  LaidR w0 q (ws.alloc (.cells #[.slice a n c,.slice a' n' c'] T)) ws.heap.size a n c a' n' c':=
 ⟨newBox ws _ T 0 _ rfl,newBox ws _ T 1 _ rfl,hr.below (below_alloc _ _),hb.size,by simp,bnext hb (below_alloc _ _)⟩
set_option linter.unusedSimpArgs false
def GaveQB (w:World) (d:QueryD) (b:Bool) (e:Ending) (w':World):Prop:=∃a n c a' n' c',e=.returned (.tuple #[.agg #[.slice a n c,.slice a' n' c'],.bool b])∧RdQuery w' (.agg #[.slice a n c,.slice a' n' c']) d∧Below w.heap.size w w'
end Go.Proofs.YtpedpbbiamhgdaaGreatDoor
namespace Go.Proofs.YtpedpbbiamhgdaaGreatDoor
open Go Go.Sort Go.RowKit
set_option linter.unusedVariables false
set_option linter.unusedSimpArgs false
theorem mem_take9 {l:List AtomD} {k:Nat} {x e:AtomD} (h:l[k]?=some x):decide (e∈l.take (k+1))=(decide (e∈l.take k)||decide (x=e)):=by
 obtain⟨hk,rfl⟩:=List.getElem?_eq_some_iff.1 h;rw[List.take_succ_eq_append_getElem hk];generalize l.take k=A;generalize l[k]=y;by_cases h1:e∈A
 ·simp[h1]
 ·by_cases h2:y=e
  ·simp[h1,h2]
  ·have h3:¬e=y:=fun h=>h2 h.symm
   simp[h1,h2,h3]
theorem QInv.below9 {E:TypeId} {W w w':World} {vh xv:Value} {l:List AtomD} {bss:List (List Nat)} (h:QInv E W w vh l xv bss) (hb:Below w.heap.size w w'):QInv E W w' vh l xv bss:=by
 obtain⟨⟨cs,h1,h2⟩,h3,h4,h5,h6,h7,h8⟩:=h;exact⟨⟨cs,h1.grow hb,h2.grow hb⟩,cellk hb h3,cellk hb h4,frok hb h3 h5,h6,fun b hb'=>⟨(h7 b hb').1,Nat.lt_of_lt_of_le (h7 b hb').2 hb.size⟩,Nat.lt_of_lt_of_le h8 hb.size⟩
theorem eq9 (x e:AtomD):decide (x.1=e.1∧x.2=e.2)=decide (x=e):=by
 obtain⟨a,b⟩:=x;obtain⟨c,d⟩:=e;simp
set_option maxRecDepth 100000 in
set_option maxHeartbeats 16000000 in
theorem sDedupe_any (w:World) (v:Value) (d:QueryD) (h:RdQuery w v d) (hz:sizeQuery d≤1048576) :
  Calls Tryz.prog 92 #[v] w (GaveQ w (ddQ d)):=by
 have hs1:d.1.length≤1048576:=by unfold sizeQuery at hz;omega
 have hs2:sizeAtomS d.2≤1048576:=by unfold sizeQuery at hz;omega
 obtain⟨a0,n0,c0,a,n,c,rfl,hi,ha⟩:=h;obtain⟨hl,hn,hm,hcell⟩:=ha.at
 unfold maxLen at hm;have HC:=Lib.hid hcell;have HL:=Lib.hid hl;have HI:=Lib.hid hi;have HZ1:=Lib.hid hs1;have HSA:=Lib.hid hs2;have hln:n≤1048576:=by unfold sizeAtomS at hs2;omega
 have hb0:∀a b,Below w.heap.size w ((w.alloc a).alloc b):=fun a b=>((Below.refl _ _).alloc (Nat.le_refl _) _).alloc (by simp) _
 have HB0:=Lib.hid hb0;clear hi ha hcell hl hb0 hs1 hs2 hz;go_enter Tryz.func92,Tryz.ntmps92
 go_upto_region 1 with fail
 obtain⟨w1,hW⟩:∃W,W=(w.alloc (.cells #[.slice a0 n0 c0,.slice a n c] 29)).alloc (.cells #[.slice none 0 0,.slice none 0 0] 29):=⟨_,rfl⟩
 have HB1:Hid (Below w.heap.size w w1):=by rw[hW];exact HB0.out _ _
 have q1:w1.cell? ⟨w.heap.size,0,none⟩=some (.slice a0 n0 c0):=by rw[hW];simp
 have q2:w1.cell? ⟨w.heap.size,1,none⟩=some (.slice a n c):=by rw[hW];simp
 have k0:w1.cell? ⟨w.heap.size+1,0,none⟩=some (.slice none 0 0):=by rw[hW];simp
 have k1:w1.cell? ⟨w.heap.size+1,1,none⟩=some (.slice none 0 0):=by rw[hW];simp
 have f0:w1.frozen? ⟨w.heap.size+1,0,none⟩=false:=by rw[hW];simp
 have f1:w1.frozen? ⟨w.heap.size+1,1,none⟩=false:=by rw[hW];simp
 have hsl:SlB w1 (w.heap.size+1):=by
  rw[hW];have:=SlB.new (w.alloc (.cells #[.slice a0 n0 c0,.slice a n c] 29)) none none 0 0 0 0 29;simpa using this
 have HSL1:=Lib.hid hsl;have HSZ:Hid (w.heap.size+2≤w1.heap.size):=by rw[hW];exact Lib.hid (by simp)
 rw[←hW];clear hW hsl;have hal:=below_alloc w1 (.cells #[] 3);have hlit:=Built.lit .i64 3 w1 w1 [] (Nat.zero_le _) (Below.refl _ _);have HLIT:Hid (Built .i64 3 w1 (w1.alloc (.cells #[] 3)) (.slice (some ⟨w1.heap.size,0,none⟩) 0 0) []):=Lib.hid (by simpa using hlit);have HHA:=Lib.hid (HI.out.below (bnext HB1.out hal));have z1:=cellk hal q1;clear hlit hal;go_wp2_with (at_builtin;refine wpList_appInts rfl (.tmp 7) (.tmp 9) 24 rfl 3 Tryz.underlying24 info_i64 _ [] rfl HLIT.out _ d.1 rfl HHA.out (by have:=HZ1.out;simp;omega) ?_)
 clear z1;intro vh w2 hown;have hbl:=hown.below;obtain⟨va,vn,vc,rfl⟩:=(Ints.ofBuilt hown (by simpa using HI.out.1)).shape;obtain⟨bh,hoh,hnd,hfr⟩:=OInts.ofBuilt hown (by simpa using HI.out.1);have HOH:Hid (OInts w2 (.slice va vn vc) d.1 bh):=Lib.hid (by simpa using hoh);have HFH:Hid (∀b∈bh,b≠w.heap.size):=fun b hb e=>by have:=(hfr b hb).1;have:=HSZ.out;omega
 have HSL2:=Lib.hid (HSL1.out.below (by have:=HSZ.out;omega) hbl);replace f0:=frok hbl k0 f0;replace f1:=frok hbl k1 f1;replace q1:=cellk hbl q1;replace q2:=cellk hbl q2;replace k0:=cellk hbl k0;replace k1:=cellk hbl k1;have HB2:=Lib.hid (bnext HB1.out hbl);have HSZ2:Hid (w.heap.size+2≤w2.heap.size):=by have:=hbl.size;have:=HSZ.out;exact Lib.hid (by omega)
 clear hown hbl hoh hnd hfr HLIT HHA HSL1 HSZ;have HSZ:=HSZ2;go_wp2_with fail
 obtain⟨W3,hW⟩:∃W3,W3=w2.alloc (.cells #[.slice va vn vc,.slice none 0 0] 29):=⟨_,rfl⟩
 have HBA:Hid (Below w2.heap.size w2 W3):=by rw[hW];exact Lib.hid (below_alloc _ _)
 have HQ0:Hid (QInv 83 w2 W3 (.slice va vn vc) [] (.slice none 0 0) []):=by
  refine⟨BuiltA.nil _ _ _ HBA.out,by rw[hW];simp,by rw[hW];simp,by rw[hW];simp,fun b hb=>by simp[blk] at hb,fun b hb=>by simp at hb,by rw[hW];simp⟩
 rw[←hW];have KQ1:=Lib.hid q1;have KQ2:=Lib.hid q2;have KK0:=Lib.hid k0;have KK1:=Lib.hid k1;have KF0:=Lib.hid f0;have KF1:=Lib.hid f1;clear hW HBA q1 q2 k0 k1 f0 f1
 go_loopw [4] (fun iv wr=>∃i:Nat,i≤n∧iv=.int .i64 i∧∃xv bss,QInv 83 w2 wr (.slice va vn vc) (ddA (d.2.take i)) xv bss) (fun iv _=>n-(intOf iv).toNat)
 case atStart=>exact⟨0,by omega,rfl,_,_,by simpa[ddA] using HQ0.out⟩
 case round=>
  obtain⟨wO,hwO⟩:∃x,x=wr:=⟨_,rfl⟩
  subst hwO;obtain⟨i,hi,rfl,xv,bss,hq⟩:=hrel;have HQI:=Lib.hid hq;obtain⟨hba,kx1,kx0,kxf,hx6,_,hxs⟩:=hq;have HXB:Hid (w2.heap.size∉blk xv):=fun hx=>(hx6 _ hx).1 rfl
  have HXS:=Lib.hid hxs;clear hx6;have hbq:=hba.below;have q2:=cellk hbq KQ2.out;obtain⟨xa,xn,xc,rfl⟩:=HQI.out.slice;by_cases hlt:i<n
  ·obtain⟨b,off,rfl,hbw,hc⟩:=HC.out (by omega);obtain⟨e,hd⟩:∃e,d.2[i]?=some e:=⟨d.2[i]'(by rw[HL.out];exact hlt),List.getElem?_eq_getElem (by rw[HL.out];exact hlt)⟩
   obtain⟨ea,em,ec,c0,c1,hdi,hints⟩:=atomAt (n:=n) hc i e hd;have hww:=bnext HB2.out hbq;have j0:=cellk hww c0;have j1:=cellk hww c1;have HTK:=Lib.hid (ddA_take hd);have hi0:(0:Int)≤i:=by omega
   have hi1:(i:Int)<n:=by omega
   have hlen2:(ddA (d.2.take i)).length≤i:=by have:=ddA_len (d.2.take i);simp at this;omega
   have hez:e.2.length≤1048576:=by
    have h5:=sumArgs_take hd;have h6:=sumArgs_le d.2 (i+1);have h7:=HSA.out;unfold sizeAtomS at h7;omega
   have HDI:=Lib.hid hdi;have HINT:=Lib.hid (hints.below hww);obtain⟨cs,hc1,hc2⟩:=hba;have HC1:=Lib.hid hc1;have HC2:=Lib.hid hc2;have HEZ:=Lib.hid hez;generalize hLL:ddA (d.2.take i)=L at *
   have hxl:xn=L.length:=by
    rcases hc1.form with⟨e1,e2⟩|⟨g,cap,e1,_,_⟩
    ·cases e1;exact e2.symm
    ·cases e1;rfl
   have hbx:∀x∈blk (.slice xa xn xc),w2.heap.size≤x:=by
    rcases hc1.form with⟨e1,_⟩|⟨g,cap,e1,_,_⟩
    ·rw[e1];intro x hx;simp[blk] at hx
    ·rw[e1] at hc1 ⊢;intro x hx;simp[blk] at hx;subst hx;exact hc1.lt.1
   subst hxl;have hxi:L.length≤1048576:=by omega
   have HROW:Hid (∀(k:Nat) (x:AtomD),L[k]?=some x→∃g ya ym yc,xa=some ⟨g,0,none⟩∧wO.cell? ⟨g,k*2,none⟩=some (.int .i64 x.1)∧wO.cell? ⟨g,k*2+1,none⟩=some (.slice ya ym yc)∧Ints wO (.slice ya ym yc) x.2):=fun k x hx=>by
    have hk:=(List.getElem?_eq_some_iff.1 hx).1;rcases hc1.form with⟨_,e2⟩|⟨g,cap,e1,_,_⟩
    ·omega
    ·obtain⟨ya,ym,yc,h1,h2,h3,h4⟩:=hc2.2 k x hx;rw[e1] at hc1
     cases e1;exact⟨g,ya,ym,yc,rfl,by rw[hc1.cell _ (by omega)];exact h1,by rw[hc1.cell _ (by omega)];exact h2,h4.1⟩
   have hnb:w.heap.size<w2.heap.size:=by have:=HSZ.out;omega
   have hnb2:b<w2.heap.size:=by have:=HSZ.out;omega
   have HN0:Hid (w.heap.size∉blk (.slice xa L.length xc)):=fun hx=>by have:=hbx _ hx;omega
   have HN1:Hid (b∉blk (.slice xa L.length xc)):=fun hx=>by have:=hbx _ hx;omega
   have HEQ9:Hid (∀(k:Nat) (x:AtomD),L[k]?=some x→∀(W:World),Below wO.heap.size wO W→∀ya ym yc,Ints wO (.slice ya ym yc) x.2→Calls Tryz.prog 51 #[.agg #[.int .i64 x.1,.slice ya ym yc],.agg #[.int .i64 e.1,.slice ea em ec]] W (GaveBool W (decide (x=e)))):=fun k x hx W hb ya ym yc hy=>by
    have:=sEqualAtoms_any W x.1 e.1 (.slice ya ym yc) (.slice ea em ec) x.2 e.2 (hy.below hb) (HINT.out.below hb)
    rwa [eq9] at this
   clear hc hbw hd c0 c1 hdi hww hez hc1 hc2 hbx;go_wp2_with fail
   go_loopw [5,6] (fun fv kv wq=>∃k:Nat,k≤L.length∧kv=.int .i64 k∧fv=.bool (decide (e∈L.take k))∧Hid (Below wO.heap.size wO wq)) (fun _ kv _=>L.length-(intOf kv).toNat)
   case atStart=>exact⟨0,by omega,rfl,by simp,Lib.hid (Below.refl _ _)⟩
   case round=>
    obtain⟨k,hk,rfl,rfl,HBQ⟩:=hrel;obtain⟨fb,hfb⟩:∃fb,decide (e∈L.take k)=fb:=⟨_,rfl⟩
    have HFB:=Lib.hid hfb;rw[hfb];clear hfb;have x1:=cellk HBQ.out kx1;have y2:=cellk HBQ.out q2;have y3:=cellk HBQ.out j0;have y4:=cellk HBQ.out j1;by_cases hltk:k<L.length
    ·obtain⟨x,hx⟩:∃x,L[k]?=some x:=⟨L[k],List.getElem?_eq_getElem hltk⟩
     obtain⟨g,ya,ym,yc,rfl,r0,r1,hyi⟩:=HROW.out k x hx;have HMT:=Lib.hid (mem_take9 (e:=e) hx);rw[HFB.out] at HMT;have HCL:=Lib.hid (fun W hb=>HEQ9.out k x hx W hb ya ym yc hyi);have g0:=cellk HBQ.out r0;have g1:=cellk HBQ.out r1;have hk0:(0:Int)≤k:=by omega
     have hk1:(k:Int)<L.length:=by omega
     clear hx r0 r1 hyi
     cases fb with
     |true=>
      go_wp2_with fail
      refine wp_region_quiet_below (by kernel_rfl) (by kernel_rfl) ?_
      repeat (any_goals (first|go_big_quiet_step (fail)|quiet_step (fail)))
      refine wpQuiet_nil ?_;intro _ hw';obtain⟨⟨dq,osq⟩,hw''⟩:=hw';subst hw'';go_wp2_with fail
      exact⟨⟨k+1,by omega,by simp,by rw[HMT.out];rfl,Lib.hid (bnext HBQ.out (below_regrown _ _ _))⟩,by simp[intOf];omega⟩
     |false=>
      go_wp2_with fail
      go_region_held3 (fun w'=>w'.cell? ⟨w2.heap.size,1,none⟩=some (.slice (some ⟨g,0,none⟩) L.length xc)∧w'.cell? ⟨g,k*2,none⟩=some (.int .i64 x.1)∧w'.cell? ⟨g,k*2+1,none⟩=some (.slice ya ym yc)∧w'.cell? ⟨w.heap.size,1,none⟩=some (.slice (some ⟨b,off,none⟩) n c)∧w'.cell? ⟨b,off+i*2,none⟩=some (.int .i64 e.1)∧w'.cell? ⟨b,off+i*2+1,none⟩=some (.slice ea em ec)∧Below wO.heap.size wO w')
       (first|assumption|exact⟨by simpa using x1,by simpa using g0,by simpa using g1,by simpa using y2,by simpa using y3,by simpa using y4,HBQ.out.drew⟩|(go_split_ands;exact⟨cellk (by assumption) (by assumption),cellk (by assumption) (by assumption),cellk (by assumption) (by assumption),cellk (by assumption) (by assumption),cellk (by assumption) (by assumption),cellk (by assumption) (by assumption),bnext (by assumption) (by assumption)⟩))
       (first
        |(go_at_call 51;(try go_split_ands);refine (HCL.out _ (by assumption)).mono ?_;rintro e2 w3 ⟨rfl,hb3⟩))
      all_goals (go_wp2_with fail;(try go_split_ands))
      all_goals exact⟨⟨k+1,by omega,by simp,by rw[HMT.out];rfl,Lib.hid (by assumption)⟩,by simp[intOf];omega⟩
    ·obtain rfl:k=L.length:=by omega
     have hmem:decide (e∈L)=fb:=by rw[←HFB.out,List.take_length]
     have HMEM:=Lib.hid hmem;clear hmem HROW HEQ9;have HBr:=Lib.hid (bnext hbq HBQ.out)
     cases fb with
     |true=>
      have HRT:Hid (ddA (d.2.take (i+1))=L):=by rw[HTK.out,if_pos (of_decide_eq_true HMEM.out)];exact Lib.hid rfl
      have HQ9:=Lib.hid (QInv.below9 HQI.out HBQ.out);go_wp2_with fail
      exact⟨⟨i+1,by omega,by simp,_,_,by rw[HRT.out];exact HQ9.out⟩,by simp[intOf];omega⟩
     |false=>
      have HRT:Hid (ddA (d.2.take (i+1))=L++[(e.1,e.2)]):=by rw[HTK.out,if_neg (of_decide_eq_false HMEM.out)];exact Lib.hid rfl
      obtain⟨wr,hwr⟩:∃x,x=wr:=⟨_,rfl⟩
      subst hwr;replace HQI:=Lib.hid (QInv.below9 HQI.out HBQ.out);replace HC1:=Lib.hid (HC1.out.grow HBQ.out);replace HC2:=Lib.hid (HC2.out.grow HBQ.out);replace HXS:=Lib.hid (Nat.lt_of_lt_of_le HXS.out HBQ.out.size);have hal:=below_alloc wr (.cells #[] 3);have hlit:=Built.lit .i64 3 wr wr [] (Nat.zero_le _) (Below.refl _ _);have hlit2:Built .i64 3 wr (wr.alloc (.cells #[] 3)) (.slice (some ⟨wr.heap.size,0,none⟩) 0 0) []:=by simpa using hlit
      have HLIT:=Lib.hid hlit2.drew;have HIA:=Lib.hid (HINT.out.below (bnext HBQ.out hal.drew));have HEI:=Lib.hid HINT.out.1;replace kxf:=frok HBQ.out kx1 kxf;replace kx1:=x1;replace q2:=y2;replace j0:=y3;replace j1:=y4;have a0:=cellk hal q2;have a1:=cellk hal kx1;have a2:=cellk hal j0;have a3:=cellk hal j1;generalize e.1=r at *;generalize e.2=l at *;clear hlit hlit2 hal x1 y2 y3 y4;go_wp2_with fail
      refine wp_region_noPanic ?_;refine wp_region_held_drew (S:=(fun w'=>w'.cell? ⟨w.heap.size,1,none⟩=some (.slice (some ⟨b,off,none⟩) n c)∧w'.cell? ⟨b,off+i*2,none⟩=some (.int .i64 r)∧w'.cell? ⟨b,off+i*2+1,none⟩=some (.slice ea em ec))) (by kernel_rfl) ?_ (fun hHeld=>?_)
      ·(try dsimp only)
       (first|exact⟨by simpa using q2,by simpa using j0,by simpa using j1⟩|exact⟨by simpa using a0,by simpa using a2,by simpa using a3⟩|exact⟨y0,y1,y3⟩|exact⟨cellk (below_alloc _ _) y0,cellk (below_alloc _ _) y1,cellk (below_alloc _ _) y3⟩|exact⟨x0,x1,x3⟩|exact⟨(World.cell?_setCell_other _ _ _ _ (by intro e;have:=congrArg Addr.block e;simp at this;omega)).trans x0,(World.cell?_setCell_other _ _ _ _ (by intro e;have:=congrArg Addr.block e;simp at this;omega)).trans x1,(World.cell?_setCell_other _ _ _ _ (by intro e;have:=congrArg Addr.block e;simp at this;omega)).trans x3⟩)
      refine wpAnyH_take (i:=0) (oi:=_) (v:=?_) rfl (by kernel_rfl) (by kernel_rfl) (by kernel_rfl) (fun _ _ _ h=>h) (Or.inl ⟨by rfl,?_⟩) (by assumption) ?_;rotate_left
      ·(intro w hSw;(try dsimp only at hSw);go_simp<;>with_reducible rfl)
      (try simp only[Act.put,List.setIfInBounds_toArray,List.set_cons_zero,List.set_cons_succ])
      refine wpAnyH_take (i:=2) (oi:=_) (v:=?_) rfl (by kernel_rfl) (by kernel_rfl) (by kernel_rfl) (fun _ _ _ h=>h) (Or.inl ⟨by rfl,?_⟩) (by assumption) ?_;rotate_left
      ·(intro w hSw;(try dsimp only at hSw);go_simp<;>with_reducible rfl)
      (try simp only[Act.put,List.setIfInBounds_toArray,List.set_cons_zero,List.set_cons_succ])
      refine wpAnyH_take (i:=3) (oi:=_) (v:=?_) rfl (by kernel_rfl) (by kernel_rfl) (by kernel_rfl) (fun _ _ _ h=>h) (Or.inl ⟨by rfl,?_⟩) (by assumption) ?_;rotate_left
      ·(intro w hSw;(try dsimp only at hSw);go_simp<;>with_reducible rfl)
      (try simp only[Act.put,List.setIfInBounds_toArray,List.set_cons_zero,List.set_cons_succ])
      refine wpAnyH_take (i:=4) (oi:=_) (v:=?_) rfl (by kernel_rfl) (by kernel_rfl) (by kernel_rfl) (fun _ _ _ h=>h) (Or.inl ⟨by rfl,?_⟩) (by assumption) ?_;rotate_left
      ·(intro w hSw;(try dsimp only at hSw);go_simp<;>with_reducible rfl)
      (try simp only[Act.put,List.setIfInBounds_toArray,List.set_cons_zero,List.set_cons_succ])
      refine wpAnyH_take (i:=5) (oi:=_) (v:=?_) rfl (by kernel_rfl) (by kernel_rfl) (by kernel_rfl) (fun _ _ _ h=>h) (Or.inl ⟨by rfl,?_⟩) (by assumption) ?_;rotate_left
      ·(intro w hSw;(try dsimp only at hSw);go_simp<;>with_reducible rfl)
      (try simp only[Act.put,List.setIfInBounds_toArray,List.set_cons_zero,List.set_cons_succ])
      refine wpAnyH_take (i:=6) (oi:=_) (v:=?_) rfl (by kernel_rfl) (by kernel_rfl) (by kernel_rfl) (fun _ _ _ h=>h) (Or.inl ⟨by rfl,?_⟩) (by assumption) ?_;rotate_left
      ·(intro w hSw;(try dsimp only at hSw);go_simp<;>with_reducible rfl)
      (try simp only[Act.put,List.setIfInBounds_toArray,List.set_cons_zero,List.set_cons_succ])
      refine wpAnyH_take (i:=7) (oi:=_) (v:=?_) rfl (by kernel_rfl) (by kernel_rfl) (by kernel_rfl) (fun _ _ _ h=>h) (Or.inl ⟨by rfl,?_⟩) (by assumption) ?_;rotate_left
      ·(intro w hSw;(try dsimp only at hSw);go_simp<;>with_reducible rfl)
      (try simp only[Act.put,List.setIfInBounds_toArray,List.set_cons_zero,List.set_cons_succ])
      refine wpAnyH_take (i:=9) (oi:=_) (v:=?_) rfl (by kernel_rfl) (by kernel_rfl) (by kernel_rfl) (fun _ _ _ h=>h) (Or.inl ⟨by rfl,?_⟩) (by assumption) ?_;rotate_left
      ·(intro w hSw;(try dsimp only at hSw);go_simp<;>with_reducible rfl)
      (try simp only[Act.put,List.setIfInBounds_toArray,List.set_cons_zero,List.set_cons_succ])
      refine wpAnyH_take (i:=10) (oi:=_) (v:=?_) rfl (by kernel_rfl) (by kernel_rfl) (by kernel_rfl) (fun _ _ _ h=>h) (Or.inl ⟨by rfl,?_⟩) (by assumption) ?_;rotate_left
      ·(intro w hSw;(try dsimp only at hSw);go_simp<;>with_reducible rfl)
      (try simp only[Act.put,List.setIfInBounds_toArray,List.set_cons_zero,List.set_cons_succ])
      refine wpAnyH_take (i:=11) (oi:=_) (v:=?_) rfl (by kernel_rfl) (by kernel_rfl) (by kernel_rfl) (fun _ _ _ h=>h) (Or.inl ⟨by rfl,?_⟩) (by assumption) ?_;rotate_left
      ·(intro w hSw;(try dsimp only at hSw);go_simp<;>with_reducible rfl)
      (try simp only[Act.put,List.setIfInBounds_toArray,List.set_cons_zero,List.set_cons_succ])
      refine wpAnyH_take (i:=12) (oi:=_) (v:=?_) rfl (by kernel_rfl) (by kernel_rfl) (by kernel_rfl) (fun _ _ _ h=>h) (Or.inl ⟨by rfl,?_⟩) (by assumption) ?_;rotate_left
      ·(intro w hSw;(try dsimp only at hSw);go_simp<;>with_reducible rfl)
      (try simp only[Act.put,List.setIfInBounds_toArray,List.set_cons_zero,List.set_cons_succ])
      refine wpAnyH_take (i:=13) (oi:=_) (v:=?_) rfl (by kernel_rfl) (by kernel_rfl) (by kernel_rfl) (fun _ _ _ h=>h) (Or.inl ⟨by rfl,?_⟩) (by assumption) ?_;rotate_left
      ·(intro w hSw;(try dsimp only at hSw);go_simp<;>with_reducible rfl)
      (try simp only[Act.put,List.setIfInBounds_toArray,List.set_cons_zero,List.set_cons_succ])
      refine wpAnyH_take (i:=14) (oi:=_) (v:=?_) rfl (by kernel_rfl) (by kernel_rfl) (by kernel_rfl) (fun _ _ _ h=>h) (Or.inl ⟨by rfl,?_⟩) (by assumption) ?_;rotate_left
      ·(intro w hSw;(try dsimp only at hSw);go_simp<;>with_reducible rfl)
      (try simp only[Act.put,List.setIfInBounds_toArray,List.set_cons_zero,List.set_cons_succ])
      refine wpAnyH_ready (rs:=[1,8]) (by kernel_rfl) (by simp) ?_;refine AllReadyH.cons (o:=_) rfl (fun K hK=>?_) ?_
      ·go_simp
       refine hK.out _ _ ?_ (fun hHeld=>?_)
       ·(try dsimp only)
        (first|exact⟨by simpa using q2,by simpa using j0,by simpa using j1⟩|exact⟨by simpa using a0,by simpa using a2,by simpa using a3⟩|exact⟨y0,y1,y3⟩|exact⟨cellk (below_alloc _ _) y0,cellk (below_alloc _ _) y1,cellk (below_alloc _ _) y3⟩|exact⟨x0,x1,x3⟩|exact⟨(World.cell?_setCell_other _ _ _ _ (by intro e;have:=congrArg Addr.block e;simp at this;omega)).trans x0,(World.cell?_setCell_other _ _ _ _ (by intro e;have:=congrArg Addr.block e;simp at this;omega)).trans x1,(World.cell?_setCell_other _ _ _ _ (by intro e;have:=congrArg Addr.block e;simp at this;omega)).trans x3⟩)
       clear hK K
       (try simp only[Act.put,List.setIfInBounds_toArray,List.set_cons_zero,List.set_cons_succ])
       refine wpAnyH_ready (rs:=[8]) (by kernel_rfl) (by simp) ?_;refine AllReadyH.cons (o:=_) rfl (fun K hK=>?_) ?_
       ·go_simp
        refine hK.out _ _ ?_ (fun hHeld=>?_)
        ·(try dsimp only)
         (first|exact⟨by simpa using q2,by simpa using j0,by simpa using j1⟩|exact⟨by simpa using a0,by simpa using a2,by simpa using a3⟩|exact⟨y0,y1,y3⟩|exact⟨cellk (below_alloc _ _) y0,cellk (below_alloc _ _) y1,cellk (below_alloc _ _) y3⟩|exact⟨x0,x1,x3⟩|exact⟨(World.cell?_setCell_other _ _ _ _ (by intro e;have:=congrArg Addr.block e;simp at this;omega)).trans x0,(World.cell?_setCell_other _ _ _ _ (by intro e;have:=congrArg Addr.block e;simp at this;omega)).trans x1,(World.cell?_setCell_other _ _ _ _ (by intro e;have:=congrArg Addr.block e;simp at this;omega)).trans x3⟩)
        clear hK K
        (try simp only[Act.put,List.setIfInBounds_toArray,List.set_cons_zero,List.set_cons_succ])
        refine wpAnyH_ready (rs:=[15]) (by kernel_rfl) (by simp) ?_;refine AllReadyH.cons (o:=_) rfl (fun K hK=>?_) ?_
        ·(refine step_appInts (by rfl) (.tmp 50) (.tmp 56) 24 (by rfl) 3 Tryz.underlying24 info_i64 _ [] (by rfl) HLIT.out _ l (by rfl) HIA.out (by have:=HEZ.out;simp;omega) ?_;intro v' w3 hown;obtain⟨ba,bn,bc,rfl⟩:=(Ints.ofBuilt hown (by simpa using HEI.out)).shape;obtain⟨bsb,hob,hnd,hfb⟩:=OInts.ofBuilt hown (by simpa using HEI.out);have HOB:Hid (OInts w3 (.slice ba bn bc) l bsb):=Lib.hid (by simpa using hob);have HFB:=Lib.hid hfb;have HB3:=Lib.hid hown.below;have y0:=cellk HB3.out q2;have y1:=cellk HB3.out j0;have y3:=cellk HB3.out j1;have y4:=cellk HB3.out kx1;have y7:=cellk (below_alloc w3 (.cells #[.int .i64 r,.slice ba bn bc] 83)) y4;have HC1c:=Lib.hid (HC1.out.grow HB3.out);clear hown hob hnd hfb)
         refine hK.out _ _ ?_ (fun hHeld=>?_)
         ·(try dsimp only)
          (first|exact⟨by simpa using q2,by simpa using j0,by simpa using j1⟩|exact⟨by simpa using a0,by simpa using a2,by simpa using a3⟩|exact⟨y0,y1,y3⟩|exact⟨cellk (below_alloc _ _) y0,cellk (below_alloc _ _) y1,cellk (below_alloc _ _) y3⟩|exact⟨x0,x1,x3⟩|exact⟨(World.cell?_setCell_other _ _ _ _ (by intro e;have:=congrArg Addr.block e;simp at this;omega)).trans x0,(World.cell?_setCell_other _ _ _ _ (by intro e;have:=congrArg Addr.block e;simp at this;omega)).trans x1,(World.cell?_setCell_other _ _ _ _ (by intro e;have:=congrArg Addr.block e;simp at this;omega)).trans x3⟩)
         clear hK K
         (try simp only[Act.put,List.setIfInBounds_toArray,List.set_cons_zero,List.set_cons_succ])
         refine wpAnyH_take (i:=16) (oi:=_) (v:=?_) rfl (by kernel_rfl) (by kernel_rfl) (by kernel_rfl) (fun _ _ _ h=>h) (Or.inl ⟨by rfl,?_⟩) (by assumption) ?_;rotate_left
         ·(intro w hSw;(try dsimp only at hSw);go_simp<;>with_reducible rfl)
         (try simp only[Act.put,List.setIfInBounds_toArray,List.set_cons_zero,List.set_cons_succ])
         refine wpAnyH_ready (rs:=[17]) (by kernel_rfl) (by simp) ?_;refine AllReadyH.cons (o:=_) rfl (fun K hK=>?_) ?_
         ·go_simp
          refine hK.out _ _ ?_ (fun hHeld=>?_)
          ·(try dsimp only)
           (first|exact⟨by simpa using q2,by simpa using j0,by simpa using j1⟩|exact⟨by simpa using a0,by simpa using a2,by simpa using a3⟩|exact⟨y0,y1,y3⟩|exact⟨cellk (below_alloc _ _) y0,cellk (below_alloc _ _) y1,cellk (below_alloc _ _) y3⟩|exact⟨x0,x1,x3⟩|exact⟨(World.cell?_setCell_other _ _ _ _ (by intro e;have:=congrArg Addr.block e;simp at this;omega)).trans x0,(World.cell?_setCell_other _ _ _ _ (by intro e;have:=congrArg Addr.block e;simp at this;omega)).trans x1,(World.cell?_setCell_other _ _ _ _ (by intro e;have:=congrArg Addr.block e;simp at this;omega)).trans x3⟩)
          clear hK K
          (try simp only[Act.put,List.setIfInBounds_toArray,List.set_cons_zero,List.set_cons_succ])
          refine wpAnyH_ready (rs:=[18]) (by kernel_rfl) (by simp) ?_;refine AllReadyH.cons (o:=_) rfl (fun K hK=>?_) ?_
          ·(refine step_app1D (by rfl) (.tmp 43) (.tmp 59) 27 (by rfl) 83 (.agg #[.int .i64 0,.slice none 0 0]) 2 32 Tryz.underlying27 info_Atom (by decide) (by decide) (by rfl) (.slice xa L.length xc) L.length cs (by rfl) (HC1c.out.grow (below_alloc _ _)) w3.heap.size [.int .i64 r,.slice ba bn bc] (by rfl) (by simp[Value.oneCell']) (by rfl) (heap_alloc_new w3 _) (by omega) ?_;intro g' cap' w4 hown' ko hbl;have z1:=ko.cell HXB.out (cellk (below_alloc w3 _) y4);have z2:=ko.frozen (o:=1) (Nat.lt_of_lt_of_le HXS.out (Nat.le_trans HB3.out.size (below_alloc w3 _).size)) HXB.out (frok (below_alloc w3 _) y4 (frok HB3.out kx1 kxf));have x0:=ko.cell HN0.out (cellk (below_alloc w3 _) y0);have x1:=ko.cell HN1.out (cellk (below_alloc w3 _) y1);have x3:=ko.cell HN1.out (cellk (below_alloc w3 _) y3);have HNEW:=Lib.hid (QInv.step HQI.out HC1.out HC2.out HB3.out (below_alloc w3 _) HOB.out HFB.out HDI.out hown' ko (fun b hb=>(hbl b hb).imp id (fun e=>by rw[e];exact Nat.le_refl _))))
           refine hK.out _ _ ?_ (fun hHeld=>?_)
           ·(try dsimp only)
            (first|exact⟨by simpa using q2,by simpa using j0,by simpa using j1⟩|exact⟨by simpa using a0,by simpa using a2,by simpa using a3⟩|exact⟨y0,y1,y3⟩|exact⟨cellk (below_alloc _ _) y0,cellk (below_alloc _ _) y1,cellk (below_alloc _ _) y3⟩|exact⟨x0,x1,x3⟩|exact⟨(World.cell?_setCell_other _ _ _ _ (by intro e;have:=congrArg Addr.block e;simp at this;omega)).trans x0,(World.cell?_setCell_other _ _ _ _ (by intro e;have:=congrArg Addr.block e;simp at this;omega)).trans x1,(World.cell?_setCell_other _ _ _ _ (by intro e;have:=congrArg Addr.block e;simp at this;omega)).trans x3⟩)
           clear hK K
           (try simp only[Act.put,List.setIfInBounds_toArray,List.set_cons_zero,List.set_cons_succ])
           refine wpAnyH_take (i:=19) (oi:=_) (v:=?_) rfl (by kernel_rfl) (by kernel_rfl) (by kernel_rfl) (fun _ _ _ h=>h) (Or.inl ⟨by rfl,?_⟩) (by assumption) ?_;rotate_left
           ·(intro w hSw;(try dsimp only at hSw);go_simp<;>with_reducible rfl)
           (try simp only[Act.put,List.setIfInBounds_toArray,List.set_cons_zero,List.set_cons_succ])
           refine wpAnyH_ready (rs:=[20]) (by kernel_rfl) (by simp) ?_;refine AllReadyH.cons (o:=_) rfl (fun K hK=>?_) ?_
           ·go_simp
            refine hK.out _ _ ?_ (fun hHeld=>?_)
            ·(try dsimp only)
             (first|exact⟨by simpa using q2,by simpa using j0,by simpa using j1⟩|exact⟨by simpa using a0,by simpa using a2,by simpa using a3⟩|exact⟨y0,y1,y3⟩|exact⟨cellk (below_alloc _ _) y0,cellk (below_alloc _ _) y1,cellk (below_alloc _ _) y3⟩|exact⟨x0,x1,x3⟩|exact⟨(World.cell?_setCell_other _ _ _ _ (by intro e;have:=congrArg Addr.block e;simp at this;omega)).trans x0,(World.cell?_setCell_other _ _ _ _ (by intro e;have:=congrArg Addr.block e;simp at this;omega)).trans x1,(World.cell?_setCell_other _ _ _ _ (by intro e;have:=congrArg Addr.block e;simp at this;omega)).trans x3⟩)
            clear hK K
            (try simp only[Act.put,List.setIfInBounds_toArray,List.set_cons_zero,List.set_cons_succ])
            refine wpAnyH_done (by kernel_rfl) ?_ _;refine NoPanic.normal ?_;go_wp2_with fail
            exact⟨⟨i+1,by omega,by simp,_,_,by rw[HRT.out];exact HNEW.out⟩,by simp[intOf];omega⟩
           exact AllReadyH.nil
          exact AllReadyH.nil
         exact AllReadyH.nil
        exact AllReadyH.nil
       exact AllReadyH.nil
      refine AllReadyH.cons (o:=_) rfl (fun K hK=>?_) ?_
      ·go_simp
       refine hK.out _ _ ?_ (fun hHeld=>?_)
       ·(try dsimp only)
        (first|exact⟨by simpa using q2,by simpa using j0,by simpa using j1⟩|exact⟨by simpa using a0,by simpa using a2,by simpa using a3⟩|exact⟨y0,y1,y3⟩|exact⟨cellk (below_alloc _ _) y0,cellk (below_alloc _ _) y1,cellk (below_alloc _ _) y3⟩|exact⟨x0,x1,x3⟩|exact⟨(World.cell?_setCell_other _ _ _ _ (by intro e;have:=congrArg Addr.block e;simp at this;omega)).trans x0,(World.cell?_setCell_other _ _ _ _ (by intro e;have:=congrArg Addr.block e;simp at this;omega)).trans x1,(World.cell?_setCell_other _ _ _ _ (by intro e;have:=congrArg Addr.block e;simp at this;omega)).trans x3⟩)
       clear hK K
       (try simp only[Act.put,List.setIfInBounds_toArray,List.set_cons_zero,List.set_cons_succ])
       refine wpAnyH_ready (rs:=[1,15]) (by kernel_rfl) (by simp) ?_;refine AllReadyH.cons (o:=_) rfl (fun K hK=>?_) ?_
       ·go_simp
        refine hK.out _ _ ?_ (fun hHeld=>?_)
        ·(try dsimp only)
         (first|exact⟨by simpa using q2,by simpa using j0,by simpa using j1⟩|exact⟨by simpa using a0,by simpa using a2,by simpa using a3⟩|exact⟨y0,y1,y3⟩|exact⟨cellk (below_alloc _ _) y0,cellk (below_alloc _ _) y1,cellk (below_alloc _ _) y3⟩|exact⟨x0,x1,x3⟩|exact⟨(World.cell?_setCell_other _ _ _ _ (by intro e;have:=congrArg Addr.block e;simp at this;omega)).trans x0,(World.cell?_setCell_other _ _ _ _ (by intro e;have:=congrArg Addr.block e;simp at this;omega)).trans x1,(World.cell?_setCell_other _ _ _ _ (by intro e;have:=congrArg Addr.block e;simp at this;omega)).trans x3⟩)
        clear hK K
        (try simp only[Act.put,List.setIfInBounds_toArray,List.set_cons_zero,List.set_cons_succ])
        refine wpAnyH_ready (rs:=[15]) (by kernel_rfl) (by simp) ?_;refine AllReadyH.cons (o:=_) rfl (fun K hK=>?_) ?_
        ·(refine step_appInts (by rfl) (.tmp 50) (.tmp 56) 24 (by rfl) 3 Tryz.underlying24 info_i64 _ [] (by rfl) HLIT.out _ l (by rfl) HIA.out (by have:=HEZ.out;simp;omega) ?_;intro v' w3 hown;obtain⟨ba,bn,bc,rfl⟩:=(Ints.ofBuilt hown (by simpa using HEI.out)).shape;obtain⟨bsb,hob,hnd,hfb⟩:=OInts.ofBuilt hown (by simpa using HEI.out);have HOB:Hid (OInts w3 (.slice ba bn bc) l bsb):=Lib.hid (by simpa using hob);have HFB:=Lib.hid hfb;have HB3:=Lib.hid hown.below;have y0:=cellk HB3.out q2;have y1:=cellk HB3.out j0;have y3:=cellk HB3.out j1;have y4:=cellk HB3.out kx1;have y7:=cellk (below_alloc w3 (.cells #[.int .i64 r,.slice ba bn bc] 83)) y4;have HC1c:=Lib.hid (HC1.out.grow HB3.out);clear hown hob hnd hfb)
         refine hK.out _ _ ?_ (fun hHeld=>?_)
         ·(try dsimp only)
          (first|exact⟨by simpa using q2,by simpa using j0,by simpa using j1⟩|exact⟨by simpa using a0,by simpa using a2,by simpa using a3⟩|exact⟨y0,y1,y3⟩|exact⟨cellk (below_alloc _ _) y0,cellk (below_alloc _ _) y1,cellk (below_alloc _ _) y3⟩|exact⟨x0,x1,x3⟩|exact⟨(World.cell?_setCell_other _ _ _ _ (by intro e;have:=congrArg Addr.block e;simp at this;omega)).trans x0,(World.cell?_setCell_other _ _ _ _ (by intro e;have:=congrArg Addr.block e;simp at this;omega)).trans x1,(World.cell?_setCell_other _ _ _ _ (by intro e;have:=congrArg Addr.block e;simp at this;omega)).trans x3⟩)
         clear hK K
         (try simp only[Act.put,List.setIfInBounds_toArray,List.set_cons_zero,List.set_cons_succ])
         refine wpAnyH_take (i:=16) (oi:=_) (v:=?_) rfl (by kernel_rfl) (by kernel_rfl) (by kernel_rfl) (fun _ _ _ h=>h) (Or.inl ⟨by rfl,?_⟩) (by assumption) ?_;rotate_left
         ·(intro w hSw;(try dsimp only at hSw);go_simp<;>with_reducible rfl)
         (try simp only[Act.put,List.setIfInBounds_toArray,List.set_cons_zero,List.set_cons_succ])
         refine wpAnyH_ready (rs:=[17]) (by kernel_rfl) (by simp) ?_;refine AllReadyH.cons (o:=_) rfl (fun K hK=>?_) ?_
         ·go_simp
          refine hK.out _ _ ?_ (fun hHeld=>?_)
          ·(try dsimp only)
           (first|exact⟨by simpa using q2,by simpa using j0,by simpa using j1⟩|exact⟨by simpa using a0,by simpa using a2,by simpa using a3⟩|exact⟨y0,y1,y3⟩|exact⟨cellk (below_alloc _ _) y0,cellk (below_alloc _ _) y1,cellk (below_alloc _ _) y3⟩|exact⟨x0,x1,x3⟩|exact⟨(World.cell?_setCell_other _ _ _ _ (by intro e;have:=congrArg Addr.block e;simp at this;omega)).trans x0,(World.cell?_setCell_other _ _ _ _ (by intro e;have:=congrArg Addr.block e;simp at this;omega)).trans x1,(World.cell?_setCell_other _ _ _ _ (by intro e;have:=congrArg Addr.block e;simp at this;omega)).trans x3⟩)
          clear hK K
          (try simp only[Act.put,List.setIfInBounds_toArray,List.set_cons_zero,List.set_cons_succ])
          refine wpAnyH_ready (rs:=[18]) (by kernel_rfl) (by simp) ?_;refine AllReadyH.cons (o:=_) rfl (fun K hK=>?_) ?_
          ·(refine step_app1D (by rfl) (.tmp 43) (.tmp 59) 27 (by rfl) 83 (.agg #[.int .i64 0,.slice none 0 0]) 2 32 Tryz.underlying27 info_Atom (by decide) (by decide) (by rfl) (.slice xa L.length xc) L.length cs (by rfl) (HC1c.out.grow (below_alloc _ _)) w3.heap.size [.int .i64 r,.slice ba bn bc] (by rfl) (by simp[Value.oneCell']) (by rfl) (heap_alloc_new w3 _) (by omega) ?_;intro g' cap' w4 hown' ko hbl;have z1:=ko.cell HXB.out (cellk (below_alloc w3 _) y4);have z2:=ko.frozen (o:=1) (Nat.lt_of_lt_of_le HXS.out (Nat.le_trans HB3.out.size (below_alloc w3 _).size)) HXB.out (frok (below_alloc w3 _) y4 (frok HB3.out kx1 kxf));have x0:=ko.cell HN0.out (cellk (below_alloc w3 _) y0);have x1:=ko.cell HN1.out (cellk (below_alloc w3 _) y1);have x3:=ko.cell HN1.out (cellk (below_alloc w3 _) y3);have HNEW:=Lib.hid (QInv.step HQI.out HC1.out HC2.out HB3.out (below_alloc w3 _) HOB.out HFB.out HDI.out hown' ko (fun b hb=>(hbl b hb).imp id (fun e=>by rw[e];exact Nat.le_refl _))))
           refine hK.out _ _ ?_ (fun hHeld=>?_)
           ·(try dsimp only)
            (first|exact⟨by simpa using q2,by simpa using j0,by simpa using j1⟩|exact⟨by simpa using a0,by simpa using a2,by simpa using a3⟩|exact⟨y0,y1,y3⟩|exact⟨cellk (below_alloc _ _) y0,cellk (below_alloc _ _) y1,cellk (below_alloc _ _) y3⟩|exact⟨x0,x1,x3⟩|exact⟨(World.cell?_setCell_other _ _ _ _ (by intro e;have:=congrArg Addr.block e;simp at this;omega)).trans x0,(World.cell?_setCell_other _ _ _ _ (by intro e;have:=congrArg Addr.block e;simp at this;omega)).trans x1,(World.cell?_setCell_other _ _ _ _ (by intro e;have:=congrArg Addr.block e;simp at this;omega)).trans x3⟩)
           clear hK K
           (try simp only[Act.put,List.setIfInBounds_toArray,List.set_cons_zero,List.set_cons_succ])
           refine wpAnyH_take (i:=19) (oi:=_) (v:=?_) rfl (by kernel_rfl) (by kernel_rfl) (by kernel_rfl) (fun _ _ _ h=>h) (Or.inl ⟨by rfl,?_⟩) (by assumption) ?_;rotate_left
           ·(intro w hSw;(try dsimp only at hSw);go_simp<;>with_reducible rfl)
           (try simp only[Act.put,List.setIfInBounds_toArray,List.set_cons_zero,List.set_cons_succ])
           refine wpAnyH_ready (rs:=[20]) (by kernel_rfl) (by simp) ?_;refine AllReadyH.cons (o:=_) rfl (fun K hK=>?_) ?_
           ·go_simp
            refine hK.out _ _ ?_ (fun hHeld=>?_)
            ·(try dsimp only)
             (first|exact⟨by simpa using q2,by simpa using j0,by simpa using j1⟩|exact⟨by simpa using a0,by simpa using a2,by simpa using a3⟩|exact⟨y0,y1,y3⟩|exact⟨cellk (below_alloc _ _) y0,cellk (below_alloc _ _) y1,cellk (below_alloc _ _) y3⟩|exact⟨x0,x1,x3⟩|exact⟨(World.cell?_setCell_other _ _ _ _ (by intro e;have:=congrArg Addr.block e;simp at this;omega)).trans x0,(World.cell?_setCell_other _ _ _ _ (by intro e;have:=congrArg Addr.block e;simp at this;omega)).trans x1,(World.cell?_setCell_other _ _ _ _ (by intro e;have:=congrArg Addr.block e;simp at this;omega)).trans x3⟩)
            clear hK K
            (try simp only[Act.put,List.setIfInBounds_toArray,List.set_cons_zero,List.set_cons_succ])
            refine wpAnyH_done (by kernel_rfl) ?_ _;refine NoPanic.normal ?_;go_wp2_with fail
            exact⟨⟨i+1,by omega,by simp,_,_,by rw[HRT.out];exact HNEW.out⟩,by simp[intOf];omega⟩
           exact AllReadyH.nil
          exact AllReadyH.nil
         exact AllReadyH.nil
        exact AllReadyH.nil
       refine AllReadyH.cons (o:=_) rfl (fun K hK=>?_) ?_
       ·(refine step_appInts (by rfl) (.tmp 50) (.tmp 56) 24 (by rfl) 3 Tryz.underlying24 info_i64 _ [] (by rfl) HLIT.out _ l (by rfl) HIA.out (by have:=HEZ.out;simp;omega) ?_;intro v' w3 hown;obtain⟨ba,bn,bc,rfl⟩:=(Ints.ofBuilt hown (by simpa using HEI.out)).shape;obtain⟨bsb,hob,hnd,hfb⟩:=OInts.ofBuilt hown (by simpa using HEI.out);have HOB:Hid (OInts w3 (.slice ba bn bc) l bsb):=Lib.hid (by simpa using hob);have HFB:=Lib.hid hfb;have HB3:=Lib.hid hown.below;have y0:=cellk HB3.out q2;have y1:=cellk HB3.out j0;have y3:=cellk HB3.out j1;have y4:=cellk HB3.out kx1;have y7:=cellk (below_alloc w3 (.cells #[.int .i64 r,.slice ba bn bc] 83)) y4;have HC1c:=Lib.hid (HC1.out.grow HB3.out);clear hown hob hnd hfb)
        refine hK.out _ _ ?_ (fun hHeld=>?_)
        ·(try dsimp only)
         (first|exact⟨by simpa using q2,by simpa using j0,by simpa using j1⟩|exact⟨by simpa using a0,by simpa using a2,by simpa using a3⟩|exact⟨y0,y1,y3⟩|exact⟨cellk (below_alloc _ _) y0,cellk (below_alloc _ _) y1,cellk (below_alloc _ _) y3⟩|exact⟨x0,x1,x3⟩|exact⟨(World.cell?_setCell_other _ _ _ _ (by intro e;have:=congrArg Addr.block e;simp at this;omega)).trans x0,(World.cell?_setCell_other _ _ _ _ (by intro e;have:=congrArg Addr.block e;simp at this;omega)).trans x1,(World.cell?_setCell_other _ _ _ _ (by intro e;have:=congrArg Addr.block e;simp at this;omega)).trans x3⟩)
        clear hK K
        (try simp only[Act.put,List.setIfInBounds_toArray,List.set_cons_zero,List.set_cons_succ])
        refine wpAnyH_take (i:=16) (oi:=_) (v:=?_) rfl (by kernel_rfl) (by kernel_rfl) (by kernel_rfl) (fun _ _ _ h=>h) (Or.inl ⟨by rfl,?_⟩) (by assumption) ?_;rotate_left
        ·(intro w hSw;(try dsimp only at hSw);go_simp<;>with_reducible rfl)
        (try simp only[Act.put,List.setIfInBounds_toArray,List.set_cons_zero,List.set_cons_succ])
        refine wpAnyH_ready (rs:=[1,17]) (by kernel_rfl) (by simp) ?_;refine AllReadyH.cons (o:=_) rfl (fun K hK=>?_) ?_
        ·go_simp
         refine hK.out _ _ ?_ (fun hHeld=>?_)
         ·(try dsimp only)
          (first|exact⟨by simpa using q2,by simpa using j0,by simpa using j1⟩|exact⟨by simpa using a0,by simpa using a2,by simpa using a3⟩|exact⟨y0,y1,y3⟩|exact⟨cellk (below_alloc _ _) y0,cellk (below_alloc _ _) y1,cellk (below_alloc _ _) y3⟩|exact⟨x0,x1,x3⟩|exact⟨(World.cell?_setCell_other _ _ _ _ (by intro e;have:=congrArg Addr.block e;simp at this;omega)).trans x0,(World.cell?_setCell_other _ _ _ _ (by intro e;have:=congrArg Addr.block e;simp at this;omega)).trans x1,(World.cell?_setCell_other _ _ _ _ (by intro e;have:=congrArg Addr.block e;simp at this;omega)).trans x3⟩)
         clear hK K
         (try simp only[Act.put,List.setIfInBounds_toArray,List.set_cons_zero,List.set_cons_succ])
         refine wpAnyH_ready (rs:=[17]) (by kernel_rfl) (by simp) ?_;refine AllReadyH.cons (o:=_) rfl (fun K hK=>?_) ?_
         ·go_simp
          refine hK.out _ _ ?_ (fun hHeld=>?_)
          ·(try dsimp only)
           (first|exact⟨by simpa using q2,by simpa using j0,by simpa using j1⟩|exact⟨by simpa using a0,by simpa using a2,by simpa using a3⟩|exact⟨y0,y1,y3⟩|exact⟨cellk (below_alloc _ _) y0,cellk (below_alloc _ _) y1,cellk (below_alloc _ _) y3⟩|exact⟨x0,x1,x3⟩|exact⟨(World.cell?_setCell_other _ _ _ _ (by intro e;have:=congrArg Addr.block e;simp at this;omega)).trans x0,(World.cell?_setCell_other _ _ _ _ (by intro e;have:=congrArg Addr.block e;simp at this;omega)).trans x1,(World.cell?_setCell_other _ _ _ _ (by intro e;have:=congrArg Addr.block e;simp at this;omega)).trans x3⟩)
          clear hK K
          (try simp only[Act.put,List.setIfInBounds_toArray,List.set_cons_zero,List.set_cons_succ])
          refine wpAnyH_ready (rs:=[18]) (by kernel_rfl) (by simp) ?_;refine AllReadyH.cons (o:=_) rfl (fun K hK=>?_) ?_
          ·(refine step_app1D (by rfl) (.tmp 43) (.tmp 59) 27 (by rfl) 83 (.agg #[.int .i64 0,.slice none 0 0]) 2 32 Tryz.underlying27 info_Atom (by decide) (by decide) (by rfl) (.slice xa L.length xc) L.length cs (by rfl) (HC1c.out.grow (below_alloc _ _)) w3.heap.size [.int .i64 r,.slice ba bn bc] (by rfl) (by simp[Value.oneCell']) (by rfl) (heap_alloc_new w3 _) (by omega) ?_;intro g' cap' w4 hown' ko hbl;have z1:=ko.cell HXB.out (cellk (below_alloc w3 _) y4);have z2:=ko.frozen (o:=1) (Nat.lt_of_lt_of_le HXS.out (Nat.le_trans HB3.out.size (below_alloc w3 _).size)) HXB.out (frok (below_alloc w3 _) y4 (frok HB3.out kx1 kxf));have x0:=ko.cell HN0.out (cellk (below_alloc w3 _) y0);have x1:=ko.cell HN1.out (cellk (below_alloc w3 _) y1);have x3:=ko.cell HN1.out (cellk (below_alloc w3 _) y3);have HNEW:=Lib.hid (QInv.step HQI.out HC1.out HC2.out HB3.out (below_alloc w3 _) HOB.out HFB.out HDI.out hown' ko (fun b hb=>(hbl b hb).imp id (fun e=>by rw[e];exact Nat.le_refl _))))
           refine hK.out _ _ ?_ (fun hHeld=>?_)
           ·(try dsimp only)
            (first|exact⟨by simpa using q2,by simpa using j0,by simpa using j1⟩|exact⟨by simpa using a0,by simpa using a2,by simpa using a3⟩|exact⟨y0,y1,y3⟩|exact⟨cellk (below_alloc _ _) y0,cellk (below_alloc _ _) y1,cellk (below_alloc _ _) y3⟩|exact⟨x0,x1,x3⟩|exact⟨(World.cell?_setCell_other _ _ _ _ (by intro e;have:=congrArg Addr.block e;simp at this;omega)).trans x0,(World.cell?_setCell_other _ _ _ _ (by intro e;have:=congrArg Addr.block e;simp at this;omega)).trans x1,(World.cell?_setCell_other _ _ _ _ (by intro e;have:=congrArg Addr.block e;simp at this;omega)).trans x3⟩)
           clear hK K
           (try simp only[Act.put,List.setIfInBounds_toArray,List.set_cons_zero,List.set_cons_succ])
           refine wpAnyH_take (i:=19) (oi:=_) (v:=?_) rfl (by kernel_rfl) (by kernel_rfl) (by kernel_rfl) (fun _ _ _ h=>h) (Or.inl ⟨by rfl,?_⟩) (by assumption) ?_;rotate_left
           ·(intro w hSw;(try dsimp only at hSw);go_simp<;>with_reducible rfl)
           (try simp only[Act.put,List.setIfInBounds_toArray,List.set_cons_zero,List.set_cons_succ])
           refine wpAnyH_ready (rs:=[20]) (by kernel_rfl) (by simp) ?_;refine AllReadyH.cons (o:=_) rfl (fun K hK=>?_) ?_
           ·go_simp
            refine hK.out _ _ ?_ (fun hHeld=>?_)
            ·(try dsimp only)
             (first|exact⟨by simpa using q2,by simpa using j0,by simpa using j1⟩|exact⟨by simpa using a0,by simpa using a2,by simpa using a3⟩|exact⟨y0,y1,y3⟩|exact⟨cellk (below_alloc _ _) y0,cellk (below_alloc _ _) y1,cellk (below_alloc _ _) y3⟩|exact⟨x0,x1,x3⟩|exact⟨(World.cell?_setCell_other _ _ _ _ (by intro e;have:=congrArg Addr.block e;simp at this;omega)).trans x0,(World.cell?_setCell_other _ _ _ _ (by intro e;have:=congrArg Addr.block e;simp at this;omega)).trans x1,(World.cell?_setCell_other _ _ _ _ (by intro e;have:=congrArg Addr.block e;simp at this;omega)).trans x3⟩)
            clear hK K
            (try simp only[Act.put,List.setIfInBounds_toArray,List.set_cons_zero,List.set_cons_succ])
            refine wpAnyH_done (by kernel_rfl) ?_ _;refine NoPanic.normal ?_;go_wp2_with fail
            exact⟨⟨i+1,by omega,by simp,_,_,by rw[HRT.out];exact HNEW.out⟩,by simp[intOf];omega⟩
           exact AllReadyH.nil
          exact AllReadyH.nil
         exact AllReadyH.nil
        refine AllReadyH.cons (o:=_) rfl (fun K hK=>?_) ?_
        ·go_simp
         refine hK.out _ _ ?_ (fun hHeld=>?_)
         ·(try dsimp only)
          (first|exact⟨by simpa using q2,by simpa using j0,by simpa using j1⟩|exact⟨by simpa using a0,by simpa using a2,by simpa using a3⟩|exact⟨y0,y1,y3⟩|exact⟨cellk (below_alloc _ _) y0,cellk (below_alloc _ _) y1,cellk (below_alloc _ _) y3⟩|exact⟨x0,x1,x3⟩|exact⟨(World.cell?_setCell_other _ _ _ _ (by intro e;have:=congrArg Addr.block e;simp at this;omega)).trans x0,(World.cell?_setCell_other _ _ _ _ (by intro e;have:=congrArg Addr.block e;simp at this;omega)).trans x1,(World.cell?_setCell_other _ _ _ _ (by intro e;have:=congrArg Addr.block e;simp at this;omega)).trans x3⟩)
         clear hK K
         (try simp only[Act.put,List.setIfInBounds_toArray,List.set_cons_zero,List.set_cons_succ])
         refine wpAnyH_ready (rs:=[1]) (by kernel_rfl) (by simp) ?_;refine AllReadyH.cons (o:=_) rfl (fun K hK=>?_) ?_
         ·go_simp
          refine hK.out _ _ ?_ (fun hHeld=>?_)
          ·(try dsimp only)
           (first|exact⟨by simpa using q2,by simpa using j0,by simpa using j1⟩|exact⟨by simpa using a0,by simpa using a2,by simpa using a3⟩|exact⟨y0,y1,y3⟩|exact⟨cellk (below_alloc _ _) y0,cellk (below_alloc _ _) y1,cellk (below_alloc _ _) y3⟩|exact⟨x0,x1,x3⟩|exact⟨(World.cell?_setCell_other _ _ _ _ (by intro e;have:=congrArg Addr.block e;simp at this;omega)).trans x0,(World.cell?_setCell_other _ _ _ _ (by intro e;have:=congrArg Addr.block e;simp at this;omega)).trans x1,(World.cell?_setCell_other _ _ _ _ (by intro e;have:=congrArg Addr.block e;simp at this;omega)).trans x3⟩)
          clear hK K
          (try simp only[Act.put,List.setIfInBounds_toArray,List.set_cons_zero,List.set_cons_succ])
          refine wpAnyH_ready (rs:=[18]) (by kernel_rfl) (by simp) ?_;refine AllReadyH.cons (o:=_) rfl (fun K hK=>?_) ?_
          ·(refine step_app1D (by rfl) (.tmp 43) (.tmp 59) 27 (by rfl) 83 (.agg #[.int .i64 0,.slice none 0 0]) 2 32 Tryz.underlying27 info_Atom (by decide) (by decide) (by rfl) (.slice xa L.length xc) L.length cs (by rfl) (HC1c.out.grow (below_alloc _ _)) w3.heap.size [.int .i64 r,.slice ba bn bc] (by rfl) (by simp[Value.oneCell']) (by rfl) (heap_alloc_new w3 _) (by omega) ?_;intro g' cap' w4 hown' ko hbl;have z1:=ko.cell HXB.out (cellk (below_alloc w3 _) y4);have z2:=ko.frozen (o:=1) (Nat.lt_of_lt_of_le HXS.out (Nat.le_trans HB3.out.size (below_alloc w3 _).size)) HXB.out (frok (below_alloc w3 _) y4 (frok HB3.out kx1 kxf));have x0:=ko.cell HN0.out (cellk (below_alloc w3 _) y0);have x1:=ko.cell HN1.out (cellk (below_alloc w3 _) y1);have x3:=ko.cell HN1.out (cellk (below_alloc w3 _) y3);have HNEW:=Lib.hid (QInv.step HQI.out HC1.out HC2.out HB3.out (below_alloc w3 _) HOB.out HFB.out HDI.out hown' ko (fun b hb=>(hbl b hb).imp id (fun e=>by rw[e];exact Nat.le_refl _))))
           refine hK.out _ _ ?_ (fun hHeld=>?_)
           ·(try dsimp only)
            (first|exact⟨by simpa using q2,by simpa using j0,by simpa using j1⟩|exact⟨by simpa using a0,by simpa using a2,by simpa using a3⟩|exact⟨y0,y1,y3⟩|exact⟨cellk (below_alloc _ _) y0,cellk (below_alloc _ _) y1,cellk (below_alloc _ _) y3⟩|exact⟨x0,x1,x3⟩|exact⟨(World.cell?_setCell_other _ _ _ _ (by intro e;have:=congrArg Addr.block e;simp at this;omega)).trans x0,(World.cell?_setCell_other _ _ _ _ (by intro e;have:=congrArg Addr.block e;simp at this;omega)).trans x1,(World.cell?_setCell_other _ _ _ _ (by intro e;have:=congrArg Addr.block e;simp at this;omega)).trans x3⟩)
           clear hK K
           (try simp only[Act.put,List.setIfInBounds_toArray,List.set_cons_zero,List.set_cons_succ])
           refine wpAnyH_take (i:=19) (oi:=_) (v:=?_) rfl (by kernel_rfl) (by kernel_rfl) (by kernel_rfl) (fun _ _ _ h=>h) (Or.inl ⟨by rfl,?_⟩) (by assumption) ?_;rotate_left
           ·(intro w hSw;(try dsimp only at hSw);go_simp<;>with_reducible rfl)
           (try simp only[Act.put,List.setIfInBounds_toArray,List.set_cons_zero,List.set_cons_succ])
           refine wpAnyH_ready (rs:=[20]) (by kernel_rfl) (by simp) ?_;refine AllReadyH.cons (o:=_) rfl (fun K hK=>?_) ?_
           ·go_simp
            refine hK.out _ _ ?_ (fun hHeld=>?_)
            ·(try dsimp only)
             (first|exact⟨by simpa using q2,by simpa using j0,by simpa using j1⟩|exact⟨by simpa using a0,by simpa using a2,by simpa using a3⟩|exact⟨y0,y1,y3⟩|exact⟨cellk (below_alloc _ _) y0,cellk (below_alloc _ _) y1,cellk (below_alloc _ _) y3⟩|exact⟨x0,x1,x3⟩|exact⟨(World.cell?_setCell_other _ _ _ _ (by intro e;have:=congrArg Addr.block e;simp at this;omega)).trans x0,(World.cell?_setCell_other _ _ _ _ (by intro e;have:=congrArg Addr.block e;simp at this;omega)).trans x1,(World.cell?_setCell_other _ _ _ _ (by intro e;have:=congrArg Addr.block e;simp at this;omega)).trans x3⟩)
            clear hK K
            (try simp only[Act.put,List.setIfInBounds_toArray,List.set_cons_zero,List.set_cons_succ])
            refine wpAnyH_done (by kernel_rfl) ?_ _;refine NoPanic.normal ?_;go_wp2_with fail
            exact⟨⟨i+1,by omega,by simp,_,_,by rw[HRT.out];exact HNEW.out⟩,by simp[intOf];omega⟩
           exact AllReadyH.nil
          exact AllReadyH.nil
         exact AllReadyH.nil
        exact AllReadyH.nil
       exact AllReadyH.nil
      exact AllReadyH.nil
  ·obtain rfl:i=n:=by omega
   have hT:d.2.take i=d.2:=List.take_of_length_le (by rw[HL.out];exact Nat.le_refl _);have HBr:=Lib.hid (bnext HB2.out hbq);have k0:=cellk hbq KK0.out;have k1:=cellk hbq KK1.out;have f0:=frok hbq KK0.out KF0.out;have f1:=frok hbq KK1.out KF1.out;have HSLr:=Lib.hid (HSL2.out.below (by have:=HSZ.out;omega) hbq);obtain⟨h5,h6⟩:=HQI.out.done HOH.out HFH.out (by have:=HSZ.out;omega) (OnlyAt.refl [w.heap.size] wO);rw[hT] at h6;obtain⟨_,_,_,e6,h6⟩:=h6
   cases e6;have HXR:Hid (RdQuery wO (.agg #[.slice va vn vc,.slice xa xn xc]) (ddQ d)):=⟨_,_,_,_,_,_,rfl,h5,h6⟩;clear h5 h6 hba hxs hbq;go_wp2_with fail
   have hk:OnlyAt [w.heap.size+1] wO ((wO.setCell ⟨w.heap.size+1,0,none⟩ (.slice va vn vc)).setCell ⟨w.heap.size+1,1,none⟩ (.slice xa xn xc)):=(OnlyAt.setCell wO _ _ _).same (OnlyAt.setCell _ _ _ _);exact bodyPost_ret (v:=.agg #[.slice va vn vc,.slice xa xn xc]) (by simp[results,Tryz.results92,go_sem,k0,k1]) rfl ⟨_,_,_,_,_,_,rfl,HXR.out.offS hk HSLr.out,OnlyAt.below HBr.out hk (fun x hx=>by simp at hx;omega)⟩
end Go.Proofs.YtpedpbbiamhgdaaGreatDoor
