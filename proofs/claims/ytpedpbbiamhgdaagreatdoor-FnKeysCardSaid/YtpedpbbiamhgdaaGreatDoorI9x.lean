import Derived.Test.YtpedpbbiamhgdaaGreatDoorS9x
import Derived.Test.YtpedpbbiamhgdaaGreatDoorIrename
import Derived.Deep.RegionLawGrows
import Derived.Deep.RegionHeld3
import Derived.WideKeyEntry
import Derived.WideKeyArr
import Derived.DeepKeys5
import Derived.Maps.OwnOps
import Derived.Maps.OwnSet
import Derived.Maps.OwnIn
import Derived.Test.YtpedpbbiamhgdaaGreatDoorIcAll
import Derived.Test.YtpedpbbiamhgdaaGreatDoorBase
namespace Go.Proofs.YtpedpbbiamhgdaaGreatDoor
open Go Go.Sort Go.RowKit
set_option linter.unusedVariables false
def Cs2 (w:World) (L:List Value) (l:List AtomD):Prop:=∀j d,l[j]?=some d→∃a m c,L[j*2]?=some (.int .i64 d.1)∧L[j*2+1]?=some (.slice a m c)∧inI d.1∧Ints w (.slice a m c) d.2
theorem Cs2.below {w w':World} {L:List Value} {l:List AtomD} (h:Cs2 w L l) (hb:Below w.heap.size w w'):Cs2 w' L l:=fun j d hd=>by
 obtain⟨a,m,c,h1,h2,h3,h4⟩:=h j d hd;exact⟨a,m,c,h1,h2,h3,h4.below hb⟩
theorem rd_row {E:TypeId} {w0 w:World} {v:Value} {n:Nat} {cs:List Value} {l:List AtomD} (h:BuiltC E 2 w0 w v n cs) (hl:l.length=n) (hcs:Cs2 w cs l):RdAtomS w v l:=by
 rcases h.form with⟨rfl,h0⟩|⟨g,cap,rfl,h1,h2⟩
 ·exact⟨_,_,_,rfl,none,0,0,rfl,by omega,Nat.le_refl _,by unfold maxLen;omega,fun h=>by omega⟩
 ·refine⟨_,_,_,rfl,_,n,cap,rfl,hl,h1,h2,fun _=>⟨g,0,rfl,h.lt.2,fun j hj=>?_⟩⟩;obtain⟨a,m,c,e1,e2,e3,e4⟩:=hcs j l[j] (List.getElem?_eq_getElem hj);refine⟨[.int .i64 l[j].1,.slice a m c],rfl,fun i hi=>?_,a,m,c,rfl,e3,e4⟩;rw[Nat.zero_add,h.cell _ (by omega)]
  match i,hi with
  |0,_=>exact e1
  |1,_=>exact e2
theorem RdAtomS.shape9 {w:World} {v:Value} {l:List AtomD} (h:RdAtomS w v l):∃a n c,v=.slice a n c:=by
 obtain⟨a,n,c,rfl,_⟩:=h;exact⟨a,n,c,rfl⟩
set_option maxHeartbeats 4000000 in
theorem iNewQuery_any (w:World) (va vb:Value) (hd:List Int) (bd:List AtomD) (h1:Ints w va hd) (h2:RdAtomS w vb bd) (hz:hd.length+sizeAtomS bd≤1048576) :
  Calls Tryz.prog 139 #[va,vb] w (GaveO (fun w' v' bs=>ROQuery w' v' (hd,bd) bs) w):=by
 obtain⟨a0,n0,c0,rfl⟩:=h1.shape;obtain⟨a,n,c,rfl,h2⟩:=h2;have HR:=Lib.hid (fun W (hb:Below w.heap.size w W)=>iRenameQuery_any W (.agg #[.slice a0 n0 c0,.slice a n c]) (.slice none 0 0) (hd,bd) [] ⟨_,_,_,_,_,_,rfl,h1.below hb,RdSl.below h2 (fun _ _ h=>h.below hb) hb⟩ (Ints.nil W) hz);rw[renQ_nil9] at HR;clear h1 h2;go_enter Tryz.func139,Tryz.ntmps139
 go_wp2_with fail
 obtain⟨W,hW⟩:∃W,W=w.alloc (.cells #[.slice none 0 0,.slice none 0 0] 29):=⟨_,rfl⟩
 have hbw:Below w.heap.size w W:=by rw[hW];exact below_alloc _ _
 have k0:W.cell? ⟨w.heap.size,0,none⟩=some (.slice none 0 0):=by rw[hW];simp
 have k1:W.cell? ⟨w.heap.size,1,none⟩=some (.slice none 0 0):=by rw[hW];simp
 have f0:W.frozen? ⟨w.heap.size,0,none⟩=false:=by rw[hW];simp
 have f1:W.frozen? ⟨w.heap.size,1,none⟩=false:=by rw[hW];simp
 have hsz:W.heap.size=w.heap.size+1:=by rw[hW];simp
 rw[←hW];clear hW;refine (HR.out _ hbw).mono ?_;rintro e w1 ⟨r,bs,rfl,hr,hfr,hbb⟩;replace f0:=frok hbb k0 f0;replace f1:=frok hbb k1 f1;replace k0:=cellk hbb k0;replace k1:=cellk hbb k1;have HR1:=Lib.hid hr;have HF1:=Lib.hid hfr;have HB1:=Lib.hid (bnext hbw hbb);obtain⟨ra,rn,rc,ra',rn',rc',rfl,_⟩:=hr;clear hbb hfr hbw;go_wp2_with fail
 have hk:OnlyAt [w.heap.size] w1 ((w1.setCell ⟨w.heap.size,0,none⟩ (.slice ra rn rc)).setCell ⟨w.heap.size,1,none⟩ (.slice ra' rn' rc')):=(OnlyAt.setCell w1 _ _ _).same (OnlyAt.setCell _ _ _ _);exact bodyPost_ret (v:=.agg #[.slice ra rn rc,.slice ra' rn' rc']) (by simp[results,Tryz.results139,go_sem,k0,k1]) rfl ⟨_,bs,rfl,HR1.out.onlyAt hk (fun b hb hm=>by have:=(HF1.out.2 b hb).1;simp at hm;omega),⟨HF1.out.1,fun b hb=>⟨by have:=(HF1.out.2 b hb).1;omega,Nat.lt_of_lt_of_le (HF1.out.2 b hb).2 hk.size⟩⟩,OnlyAt.below HB1.out hk (fun x hx=>by simp at hx;omega)⟩
end Go.Proofs.YtpedpbbiamhgdaaGreatDoor
namespace Go.Proofs.YtpedpbbiamhgdaaGreatDoor
open Go Go.WideElems Go.ChangeShapes Go.WideShapes Go.MapKept Go.ChangeMaps Go.RowKit
set_option linter.unusedVariables false
def prs9 (es:Array MapEntry):List (Value × Value):=es.toList.map (fun x=>(x.key,x.val))
structure Keyed9 (P:Program) (k:TypeId) (es:Array MapEntry) (clock:Nat):Prop where
 stamped:Stamped es clock
 keys:∀x∈es.toList,∃l,keyOf P k x.key=some l
theorem Keyed9.empty (P:Program) (k:TypeId) (clock:Nat):Keyed9 P k #[] clock:=⟨stamped_empty clock,fun x hx=>by simp at hx⟩
theorem modify9 {es:Array MapEntry} {j:Nat} {e0:MapEntry} (f:MapEntry→MapEntry) (h:es.toList[j]?=some e0):(es.modify j f).toList=es.toList.set j (f e0):=by
 rw[Array.toList_modify,modify_eq_set _ _ _ _ h]
section
variable {P:Program} {w:World} {t k e:TypeId} {b:Nat} {es:Array MapEntry} {clock:Nat}
theorem keyed9_push (F:Keyed9 P k es clock) {key v:Value} {kl:Lit} (hkey:keyOf P k key=some kl) (h2:∀x∈es.toList,x.key≠key):Keyed9 P k (es.push ⟨key,v,clock⟩) (clock+1):=
 ⟨stamped_push F.stamped h2,fun x hx=>by
  rw[Array.toList_push] at hx;rcases List.mem_append.1 hx with h|h
  ·exact F.keys x h
  ·rw[List.mem_singleton.1 h];exact⟨kl,hkey⟩⟩
theorem keyed9_val (F:Keyed9 P k es clock) {j:Nat} {e0:MapEntry} (h:es.toList[j]?=some e0) (v:Value):Keyed9 P k (es.modify j (fun e=>{ e with val:=v })) clock:=
 ⟨stamped_modify F.stamped j _ (fun _ _=>rfl) (fun _ _ _=>rfl),fun x hx=>by
  rw[modify9 _ h] at hx;rcases List.mem_or_eq_of_mem_set hx with h1|h1
  ·exact F.keys x h1
  ·rw[h1];exact F.keys e0 (List.mem_of_getElem? h)⟩
theorem lookup9_there (K:Maps.Keyed P k) (ht:P.underlying t=some (.map k e)) (hb:w.heap[b]?=some (.map es clock)) (F:Keyed9 P k es clock) {key:Value} {kl:Lit} (hkey:keyOf P k key=some kl) {e0:MapEntry} (h0:e0∈es.toList) (he:e0.key=key) :
  (Instr.lookup t (.map (some b)) key false).run P w=.ok e0.val w:=by
 rcases K.find w hkey es.toList F.keys with⟨h1,h2⟩|⟨j,e1,h1,h2,h3⟩
 ·exact absurd he (h2 e0 h0)
 ·have:e1=e0:=by
   have hn:=F.stamped.2.2;obtain⟨i,hi⟩:=List.mem_iff_getElem?.1 h0;have a1:(es.toList.map (·.key))[j]?=some key:=by rw[List.getElem?_map,h2];exact congrArg some h3
   have a2:(es.toList.map (·.key))[i]?=some key:=by rw[List.getElem?_map,hi];exact congrArg some he
   obtain⟨x1,y1⟩:=List.getElem?_eq_some_iff.1 a1;obtain⟨x2,y2⟩:=List.getElem?_eq_some_iff.1 a2;have:=(List.getElem_inj (h₀:=x1) (h₁:=x2) hn).1 (y1.trans y2.symm);subst this;rw[hi] at h2;exact (Option.some.inj h2).symm
  subst this;simp[Instr.lookup,run_underlying ht,MapKept.run_getObj_map hb,K.check w _ hkey,h1,Result.andThen]
theorem lookup9_none (K:Maps.Keyed P k) (ht:P.underlying t=some (.map k e)) {z:Value} (hz:∀u:World,(zeroValue e).run P u=.ok z u) (hb:w.heap[b]?=some (.map es clock)) (F:Keyed9 P k es clock) {key:Value} {kl:Lit} (hkey:keyOf P k key=some kl) (hno:∀x∈es.toList,x.key≠key) :
  (Instr.lookup t (.map (some b)) key false).run P w=.ok z w:=by
 rcases K.find w hkey es.toList F.keys with⟨h1,h2⟩|⟨j,e1,h1,h2,h3⟩
 ·simp[Instr.lookup,run_underlying ht,MapKept.run_getObj_map hb,K.check w _ hkey,h1,hz,Result.andThen]
 ·exact absurd h3 (hno e1 (List.mem_of_getElem? h2))
theorem incr9 (K:Maps.Keyed P k) (ht:P.underlying t=some (.map k e)) {z:Value} (hz:∀u:World,(zeroValue e).run P u=.ok z u) (F:Keyed9 P k es clock) {key:Value} {kl:Lit} (hkey:keyOf P k key=some kl) :
  ∃(v0:Value) (st:Nat) (es1:Array MapEntry) (clock1:Nat),
   (∀w:World,w.heap[b]?=some (.map es clock)→(Instr.lookup t (.map (some b)) key false).run P w=.ok v0 w)∧
   (∀w:World,w.heap[b]?=some (.map es1 clock1)→(Instr.lookup t (.map (some b)) key false).run P w=.ok v0 w)∧
   (∀w:World,w.heap[b]?=some (.map es clock)→(Instr.mapEntry t (.map (some b)) key).run P w=.ok (.tuple #[v0,goInt st]) (setBlock w b (.map es1 clock1)))∧
   (∀val,∃es2,Keyed9 P k es2 clock1∧(∀w:World,w.heap[b]?=some (.map es1 clock1)→(Instr.entryStore t (.map (some b)) (goInt st) val).run P w=.ok () (setBlock w b (.map es2 clock1)))∧
    ((∃j,(prs9 es)[j]?=some (key,v0)∧prs9 es2=(prs9 es).set j (key,val))∨((∀x∈prs9 es,x.1≠key)∧v0=z∧prs9 es2=prs9 es++[(key,val)]))):=by
 obtain⟨s1,s2,_⟩:=F.stamped;rcases K.find { (default:World) with heap:=#[] } hkey es.toList F.keys with⟨_,h2⟩|⟨j,e0,_,h2,h3⟩
 ·have F1:=keyed9_push (v:=z) F hkey h2
  have hfind:∀w:World,(Instr.findKey k key es.toList).run P w=.ok none w:=fun w=>by
   rcases K.find w hkey es.toList F.keys with⟨h1,_⟩|⟨j,e1,_,h4,h5⟩
   ·exact h1
   ·exact absurd h5 (h2 e1 (List.mem_of_getElem? h4))
  refine⟨z,clock,es.push ⟨key,z,clock⟩,clock+1,fun w hb=>lookup9_none K ht hz hb F hkey h2,fun w hb=>lookup9_there K ht hb F1 hkey (e0:=⟨key,z,clock⟩) (by simp) rfl,fun w hb=>?_,fun val=>⟨es.push ⟨key,val,clock⟩,keyed9_push F hkey h2,fun w hw2=>?_,.inr ⟨fun x hx=>?_,rfl,by simp[prs9]⟩⟩⟩
  ·simp[Instr.mapEntry,run_underlying ht,MapKept.run_getObj_map hb,K.check w false hkey,hfind,hz,MapKept.run_setObj_map _ hb,Result.andThen,setBlock]
  ·have hidx:(es.push ⟨key,z,clock⟩).findIdx? (fun e=>((e.born:Nat):Int)==((clock:Nat):Int))=some es.size:=by
    rw[findIdx_arr];exact findIdx_born (l:=(es.push ⟨key,z,clock⟩).toList) (j:=es.size) (e0:=⟨key,z,clock⟩) F1.stamped.2.1 (by simp)
   have hmod:(es.push ⟨key,z,clock⟩).modify es.size (fun e=>{ e with val:=val })=es.push ⟨key,val,clock⟩:=by
    apply Array.ext';rw[Array.toList_modify,Array.toList_push,Array.toList_push,←Array.length_toList,modify_last]
   simp[Instr.entryStore,MapKept.run_getObj_map hw2,asInt,asIntOf,goInt,hidx,hmod,MapKept.run_setObj_map _ hw2,Result.andThen,setBlock]
  ·obtain⟨y,hy,rfl⟩:=List.mem_map.1 hx;exact h2 y hy
 ·have hm0:e0∈es.toList:=List.mem_of_getElem? h2;have hj:es[j]?=some e0:=by simpa using h2
  have hfind:∀w:World,(Instr.findKey k key es.toList).run P w=.ok (some (j,e0.val)) w:=fun w=>by
   rcases K.find w hkey es.toList F.keys with⟨_,h1⟩|⟨i,e1,h1,h4,h5⟩
   ·exact absurd h3 (h1 e0 hm0)
   ·have hn:=F.stamped.2.2;have a1:(es.toList.map (·.key))[j]?=some key:=by rw[List.getElem?_map,h2];exact congrArg some h3
    have a2:(es.toList.map (·.key))[i]?=some key:=by rw[List.getElem?_map,h4];exact congrArg some h5
    obtain⟨x1,y1⟩:=List.getElem?_eq_some_iff.1 a1;obtain⟨x2,y2⟩:=List.getElem?_eq_some_iff.1 a2;have:=(List.getElem_inj (h₀:=x1) (h₁:=x2) hn).1 (y1.trans y2.symm);subst this;rw[h2] at h4
    cases h4;exact h1
  have hsame:es.modify j (fun e=>{ e with key:=key })=es:=by
   apply Array.ext';rw[Array.toList_modify,modify_eq_set _ _ _ _ h2];have:({ e0 with key:=key }:MapEntry)=e0:=by rw[←h3]
   rw[this];exact set_self _ _ _ h2
  refine⟨e0.val,e0.born,es,clock,fun w hb=>lookup9_there K ht hb F hkey hm0 h3,fun w hb=>lookup9_there K ht hb F hkey hm0 h3,fun w hb=>?_,fun val=>⟨es.modify j (fun e=>{ e with val:=val }),keyed9_val F h2 val,fun w hw2=>?_,.inl ⟨j,by rw[prs9,List.getElem?_map,h2,←h3];rfl,by rw[prs9,modify9 _ h2,List.map_set,←h3];rfl⟩⟩⟩
  ·simp[Instr.mapEntry,run_underlying ht,MapKept.run_getObj_map hb,K.check w false hkey,hfind,hj,h3,K.stays w hkey,hsame,MapKept.run_setObj_map _ hb,Result.andThen,setBlock]
  ·have hidx:es.findIdx? (fun e=>((e.born:Nat):Int)==((e0.born:Nat):Int))=some j:=by
    rw[findIdx_arr];exact findIdx_born s2 h2
   simp[Instr.entryStore,MapKept.run_getObj_map hw2,asInt,asIntOf,goInt,hidx,MapKept.run_setObj_map _ hw2,Result.andThen,setBlock]
end
theorem laid9:laidOutB Tryz.prog=true:=by kernel_rfl
theorem packLaw9:Maps.Keyed Tryz.prog 163:=
 Maps.Keyed.of_law (deep_law_gate laid9 (of_decide_eq_true (by kernel_rfl)) (of_decide_eq_true (by kernel_rfl)) (by kernel_rfl) (by kernel_rfl))
theorem wf9 {n:Int} (h:inI n):(Lit.int .i64 n).wf=true:=by
 unfold inI at h;have e1:IntKind.i64.min=-9223372036854775808:=by decide
 have e2:IntKind.i64.max=9223372036854775807:=by decide
 simp[Lit.wf,e1,e2];omega
theorem packKey9 {r n x y z:Int} (hr:inI r) (hn:inI n) (hx:inI x) (hy:inI y) (hz:inI z):∃kl,keyOf Tryz.prog 163 (.agg #[.int .i64 r,.int .i64 n,.int .i64 x,.int .i64 y,.int .i64 z])=some kl:=by
 have h1:Tryz.prog.keyType 163=true:=by kernel_rfl
 have c1:Tryz.prog.cellsOf 3=1:=by kernel_rfl
 have c3:Tryz.prog.cellsOf 161=3:=by kernel_rfl
 have c5:Tryz.prog.cellsOf 163=5:=by kernel_rfl
 have h2:Value.formed Tryz.prog 163 (.agg #[.int .i64 r,.int .i64 n,.int .i64 x,.int .i64 y,.int .i64 z])=true:=by
  unfold Value.formed;rw[Tryz.underlying163];rw[c5];rfl
 obtain⟨m,hm⟩:∃m,Tryz.prog.types.size=m+1+1:=⟨Tryz.prog.types.size-2,by kernel_rfl⟩
 have hl:∀(d:Nat) {n:Int},inI n→Tryz.prog.keyLits (d+1) 3 [.int .i64 n]=some [.int .i64 n]:=fun d n h=>by
  unfold Program.keyLits;rw[Tryz.underlying3];simp[wf9 h]
 have h3:∀d,Tryz.prog.keyLits (d+1+1) 161 [.int .i64 x,.int .i64 y,.int .i64 z]=some [.int .i64 x,.int .i64 y,.int .i64 z]:=fun d=>by
  unfold Program.keyLits;rw[Tryz.underlying161];simp[c1,c3,List.range,List.range.loop,hl d hx,hl d hy,hl d hz]
 have h5:∃ls,Tryz.prog.keyLits (Tryz.prog.types.size+1) 163 [.int .i64 r,.int .i64 n,.int .i64 x,.int .i64 y,.int .i64 z]=some ls:=by
  rw[hm];unfold Program.keyLits;rw[Tryz.underlying163];simp[c1,c3,c5,hl _ hr,hl _ hn,h3]
 obtain⟨ls,h5⟩:=h5;unfold keyOf;rw[Tryz.underlying163];simp only[h1,h2,Bool.and_self,if_true];exact⟨_,by show Option.map _ (Tryz.prog.keyLits _ _ [_,_,_,_,_])=_;rw[h5];rfl⟩
end Go.Proofs.YtpedpbbiamhgdaaGreatDoor
namespace Go.Proofs.YtpedpbbiamhgdaaGreatDoor
open Go Go.Sort Go.RowKit
set_option linter.unusedVariables false
set_option maxHeartbeats 4000000 in
theorem iHas1_any (w:World) (B:Nat) (ea:Option Addr) (em ec:Nat) (e:AtomD) (ya:Option Addr) (ym yc:Nat) (x:AtomD) (k0:w.cell? ⟨B,0,none⟩=some (.int .i64 e.1)) (k1:w.cell? ⟨B,1,none⟩=some (.slice ea em ec)) (he:Ints w (.slice ea em ec) e.2) (hx:Ints w (.slice ya ym yc) x.2) (hz:e.2.length≤1048576) :
  Calls Tryz.prog 169 #[.agg #[.int .i64 x.1,.slice ya ym yc],.pointer (some ⟨B,0,none⟩)] w (GaveBool w (decide (e=x))):=by
 have HEQ:=Lib.hid (fun W (hb:Below w.heap.size w W)=>iEqualAtoms_any W e.1 x.1 (.slice ea em ec) (.slice ya ym yc) e.2 x.2 (he.below hb) (hx.below hb) hz);rw[eq9] at HEQ;have hal:=below_alloc w (.cells #[.int .i64 x.1,.slice ya ym yc] 83);have j0:=cellk hal k0;have j1:=cellk hal k1;have HAL:=Lib.hid hal;generalize decide (e=x)=q at *;generalize e.1=r at *;generalize x.1=r' at *;clear he hx hz hal k0 k1;go_enter Tryz.func169,Tryz.ntmps169
 go_wp2_with fail
 refine (HEQ.out _ HAL.out).mono ?_;rintro e w1 ⟨rfl,hb⟩;have HB1:=Lib.hid (bnext HAL.out hb);clear hb;go_wp2_with fail
 go_ret;exact⟨rfl,HB1.out⟩
def GaveIx (w:World) (q:Bool) (e:Ending) (w':World):Prop:=∃m:Int,e=.returned (.int .i64 m)∧decide (0≤m)=q∧Below w.heap.size w w'
set_option maxHeartbeats 4000000 in
theorem iIdx_any (w:World) (v:Value) (L:List AtomD) (B:Nat) (ea:Option Addr) (em ec:Nat) (e:AtomD) (h:RdAtomS w v L) (k0:w.cell? ⟨B,0,none⟩=some (.int .i64 e.1)) (k1:w.cell? ⟨B,1,none⟩=some (.slice ea em ec)) (he:Ints w (.slice ea em ec) e.2) (hz:e.2.length≤1048576) (hz2:L.length≤1048576) :
  Calls Tryz.prog 198 #[v,.func (.func 169) #[] #[.pointer (some ⟨B,0,none⟩)]] w (GaveIx w (decide (e∈L))):=by
 obtain⟨a,n,c,rfl,h⟩:=h;obtain⟨hl,hn,hm,hcell⟩:=h.at
 unfold maxLen at hm;have HC:=Lib.hid hcell;have HL:=Lib.hid hl;have HF:=Lib.hid (fun W (hb:Below w.heap.size w W) ya ym yc x (hx:Ints w (.slice ya ym yc) x.2)=>iHas1_any W B ea em ec e ya ym yc x (cellk hb k0) (cellk hb k1) (he.below hb) (hx.below hb) hz);have hn2:n≤1048576:=by omega
 clear h hcell hl he hz hz2 k0 k1;go_enter Tryz.func198,Tryz.ntmps198
 go_wp2_with fail
 go_loopw [8] (fun iv wr=>∃i:Nat,i≤n∧iv=.int .i64 i∧Hid (decide (e∈L.take i)=false)∧Hid (Below w.heap.size w wr)) (fun iv _=>n-(intOf iv).toNat)
 case atStart=>exact⟨0,by omega,rfl,Lib.hid (by simp),Lib.hid (Below.refl _ _)⟩
 case round=>
  obtain⟨i,hi,rfl,HNO,HB⟩:=hrel;by_cases hlt:i<n
  ·obtain⟨b,off,rfl,hbw,hc⟩:=HC.out (by omega);obtain⟨x,hx⟩:∃x,L[i]?=some x:=⟨L[i]'(by rw[HL.out];exact hlt),List.getElem?_eq_getElem (by rw[HL.out];exact hlt)⟩
   obtain⟨ya,ym,yc,c0,c1,hdi,hints⟩:=atomAt (n:=n) hc i x hx;have r0:=cellk HB.out c0;have r1:=cellk HB.out c1;have hi0:(0:Int)≤i:=by omega
   have hi1:(i:Int)<n:=by omega
   have HMT:=Lib.hid (mem_take9 (e:=e) hx);have HXL:=Lib.hid (List.mem_of_getElem? hx);have HCL:=Lib.hid (HF.out wr HB.out ya ym yc x hints)
   have hsym:decide (e=x)=decide (x=e):=by
    by_cases h:e=x
    ·subst h;rfl
    ·rw[decide_eq_false h,decide_eq_false (fun h2=>h h2.symm)]
   rw[hsym] at HCL;obtain⟨q,hq⟩:∃q,decide (x=e)=q:=⟨_,rfl⟩
   rw[hq] at HCL HMT;rw[HNO.out] at HMT;have HQ:=Lib.hid hq;generalize x.1=r at *;clear hc hbw c0 c1 hdi hints hx hsym hq
   cases q with
   |true=>
    have HIN:Hid (decide (e∈L)=true):=by
     have h1:x=e:=of_decide_eq_true HQ.out;rw[←h1];exact Lib.hid (decide_eq_true HXL.out)
    go_wp2_with fail
    refine HCL.out.mono ?_;rintro e2 w2 ⟨rfl,hb⟩;have HB2:=Lib.hid (bnext HB.out hb);clear hb;go_wp2_with fail
    go_ret;exact⟨_,rfl,by rw[HIN.out];exact decide_eq_true (by omega),HB2.out⟩
   |false=>
    go_wp2_with fail
    refine HCL.out.mono ?_;rintro e2 w2 ⟨rfl,hb⟩;have HB2:=Lib.hid (bnext HB.out hb);clear hb;go_wp2_with fail
    exact⟨⟨i+1,by omega,by simp,by rw[HMT.out];exact Lib.hid rfl,HB2⟩,by simp[intOf];omega⟩
  ·obtain rfl:i=n:=by omega
   have HIN:Hid (decide (e∈L)=false):=by
    have:=HNO.out;rw[List.take_of_length_le (by rw[HL.out];exact Nat.le_refl _)] at this;exact this
   go_wp2_with fail
   go_ret;exact⟨-1,rfl,by rw[HIN.out];rfl,HB.out⟩
set_option maxHeartbeats 4000000 in
theorem iContains9_any (w:World) (v:Value) (L:List AtomD) (B:Nat) (ea:Option Addr) (em ec:Nat) (e:AtomD) (h:RdAtomS w v L) (k0:w.cell? ⟨B,0,none⟩=some (.int .i64 e.1)) (k1:w.cell? ⟨B,1,none⟩=some (.slice ea em ec)) (he:Ints w (.slice ea em ec) e.2) (hz:e.2.length≤1048576) (hz2:L.length≤1048576) :
  Calls Tryz.prog 168 #[v,.func (.func 169) #[] #[.pointer (some ⟨B,0,none⟩)]] w (GaveBool w (decide (e∈L))):=by
 have HX:=Lib.hid (iIdx_any w v L B ea em ec e h k0 k1 he hz hz2);obtain⟨a,n,c,rfl⟩:=h.shape9;generalize decide (e∈L)=q at *;clear h k0 k1 he hz hz2;go_enter Tryz.func168,Tryz.ntmps168
 go_wp2_with fail
 refine HX.out.mono ?_;rintro e2 w2 ⟨m,rfl,hm,hb⟩;have HM:=Lib.hid hm;have HB:=Lib.hid hb;clear hm hb;go_wp2_with fail
 go_ret;exact⟨ret_b HM.out,HB.out⟩
set_option maxHeartbeats 4000000 in
theorem iHas_any (w:World) (v:Value) (L:List AtomD) (ea:Option Addr) (em ec:Nat) (e:AtomD) (h:RdAtomS w v L) (he:Ints w (.slice ea em ec) e.2) (hz:e.2.length≤1048576) (hz2:L.length≤1048576) :
  Calls Tryz.prog 138 #[v,.agg #[.int .i64 e.1,.slice ea em ec]] w (GaveBool w (decide (e∈L))):=by
 have hal:=below_alloc w (.cells #[.int .i64 e.1,.slice ea em ec] 83);have HX:=Lib.hid (iContains9_any (w.alloc (.cells #[.int .i64 e.1,.slice ea em ec] 83)) v L w.heap.size ea em ec e (h.below hal) (newBox w _ _ 0 _ rfl) (newBox w _ _ 1 _ rfl) (he.below hal) hz hz2);have HAL:=Lib.hid hal;obtain⟨a,n,c,rfl⟩:=h.shape9;generalize decide (e∈L)=q at *;generalize e.1=r at *;clear h he hz hz2 hal;go_enter Tryz.func138,Tryz.ntmps138
 go_wp2_with fail
 refine HX.out.mono ?_;rintro e2 w2 ⟨rfl,hb⟩;have HB:=Lib.hid (bnext HAL.out hb);clear hb;go_wp2_with fail
 go_ret;exact⟨rfl,HB.out⟩
open Go.ChangeMaps (setBlock heap_setBlock_same heap_setBlock_other)
section
variable {P:Program}
theorem wpList_app1E {w w0:World} {ops:Array Oper} {rest:List Oper} {o:Oper} {a:Act} {Q:Exit→Act→World→Prop} (hgd:o.guard=none) (s x:Operand) (t:TypeId)
  (ho:o.op=.call { callee:=.builtin .append,args:=#[s,x],argTypes:=#[t,t] })
  (E:TypeId) (z:Value) (size bytes:Nat) (ht:P.underlying t=some (.slice E)) (hinfo:(P.info? E).map (fun i=>(i.zero,i.size,i.bytes))=some (some z,size,bytes)) (h8:bytes≤128) (hsz:0<size) (hzs:z.cells.size=size)
  (v:Value) (n:Nat) (cs:List Value) (hs:a.eval s=v) (hown:BuiltC E size w0 w v n cs) (g:Nat) (new:List Value) (hnew:new.length=size) (h1:∀u∈new,u.oneCell'=true)
  (hx:a.eval x=.slice (some ⟨g,0,none⟩) 1 1) (hblk:w.heap[g]?=some (.cells new.toArray E (0,0))) (hn:n+1≤1099511627776)
  (h:∀g' cap' w',BuiltC E size w0 w' (.slice (some ⟨g',0,none⟩) (n+1) cap') (n+1) (cs++new)→OnlyAt (blk v) w w'→(∀b∈blk (.slice (some ⟨g',0,none⟩) (n+1) cap'),b∈blk v∨b=w.heap.size)→wpList P ops Q rest (a.put o.dst (.slice (some ⟨g',0,none⟩) (n+1) cap')) w'):wpList P ops Q (o::rest) a w:=by
 refine wpList_plain hgd fun K hK=>?_
 have:=step_app1D (P:=P) (K:=K) (Q:=Q) (ops:=ops) (F:=True) hgd s x t ho E z size bytes ht hinfo h8 hsz hzs v n cs hs hown g new hnew h1 hx hblk hn (fun g' cap' w' hb ho hbl=>hK _ _ (h g' cap' w' hb ho hbl))
 rwa [if_pos (by simp[Region.wanted,hgd])] at this
end
theorem virt9 (w:World) (B:Nat) (h:B≤w.heap.size):∃W:World,W.heap.size=B∧Below W.heap.size W w:=by
 refine⟨{ w with heap:=w.heap.extract 0 B },by simp;omega,rfl,rfl,rfl,by simp;omega,fun k hk=>?_⟩;simp at hk;simp[Array.getElem?_extract];omega
theorem OnlyAt.sub9 {bs bs':List Nat} {w w':World} (h:OnlyAt bs w w') (hs:∀b∈bs,b∈bs'):OnlyAt bs' w w':=⟨h.os,h.tape,h.output,h.size,fun k hk hn=>h.block k hk (fun e=>hn (hs k e))⟩
theorem OnlyAt.above9 {M:Nat} {bs:List Nat} {W w w':World} (h:OnlyAt [M] W w) (k:OnlyAt bs w w') (hn:∀b∈bs,b=M∨W.heap.size≤b):OnlyAt [M] W w':=
 ⟨k.os.trans h.os,k.tape.trans h.tape,k.output.trans h.output,Nat.le_trans h.size k.size,fun i hi hb=>
  (k.block i (Nat.lt_of_lt_of_le hi h.size) (fun e=>by
   rcases hn i e with h1|h1
   ·exact hb (by simp[h1])
   ·omega)).trans (h.block i hi hb)⟩
theorem zbk9 {w w':World} {B:Nat} {o:Obj} (hb:Below w.heap.size w w') (hz:w.heap[B]?=some o):w'.heap[B]?=some o:=(hb.block B (Array.getElem?_eq_some_iff.1 hz).1).trans hz
theorem zb9_lt {w:World} {b o:Nat} {v:Value} (h:w.cell? ⟨b,o,none⟩=some v):b<w.heap.size:=World.block_lt_of_cell? _ _ h
theorem setBlock_only9 (W:World) (b:Nat) (o:Obj):OnlyAt [b] W (setBlock W b o):=
 ⟨rfl,rfl,rfl,by simp[setBlock],fun k _ hn=>by simp[setBlock,show ¬b=k from fun e=>hn (by simp[e])]⟩
theorem setBlock_heap9 {W:World} {b:Nat} {o o':Obj} (h:W.heap[b]?=some o):(setBlock W b o').heap[b]?=some o':=by
 unfold setBlock;simp[(Array.getElem?_eq_some_iff.1 h).1]
def RowA (LB:Nat) (w0 w:World) (v:Value) (l:List AtomD):Prop:=LB≤w.heap.size∧∃cs,w.ownsRow LB 83 2 v l.length cs∧Cs2 w0 cs l
theorem RowA.nil {LB:Nat} {w0 w:World} (h:LB≤w.heap.size):RowA LB w0 w (.slice none 0 0) []:=⟨h,[],World.ownsRow_nil _ _ _ _,fun j d hd=>by simp at hd⟩
theorem RowA.built {LB:Nat} {w0 w:World} {v:Value} {l:List AtomD} (h:RowA LB w0 w v l):∃W cs,W.heap.size=LB∧BuiltC 83 2 W w v l.length cs∧Cs2 w0 cs l:=by
 obtain⟨hL,cs,h1,h2⟩:=h;obtain⟨W,hW,hb⟩:=virt9 w LB hL;exact⟨W,cs,hW,⟨by rw[hW];exact h1,hb⟩,h2⟩
theorem RowA.ofBuilt {LB:Nat} {w0 W w:World} {v:Value} {l:List AtomD} {cs:List Value} (hW:W.heap.size=LB) (h:BuiltC 83 2 W w v l.length cs) (h2:Cs2 w0 cs l):RowA LB w0 w v l:=⟨by rw[←hW];exact h.2.size,cs,by rw[←hW];exact h.1,h2⟩
theorem RowA.lo {LB:Nat} {w0 w:World} {v:Value} {l:List AtomD} (h:RowA LB w0 w v l):∀b∈blk v,LB≤b∧b<w.heap.size:=by
 obtain⟨W,cs,hW,h1,_⟩:=h.built;intro b hb;rcases h1.form with⟨rfl,_⟩|⟨g,cap,rfl,_⟩
 ·simp[blk] at hb
 ·simp[blk] at hb;subst hb;rw[←hW];exact h1.lt
theorem RowA.only {LB:Nat} {w0 w w':World} {v:Value} {l:List AtomD} {bs:List Nat} (h:RowA LB w0 w v l) (ko:OnlyAt bs w w') (hn:∀b∈blk v,b∉bs):RowA LB w0 w' v l:=by
 obtain⟨hL,cs,⟨e1,e2⟩,h2⟩:=h;refine⟨Nat.le_trans hL ko.size,cs,⟨e1,?_⟩,h2⟩;rcases e2 with h4|⟨g,cap,cur,rfl,h4,hg,h5⟩
 ·exact .inl h4
 ·exact .inr ⟨g,cap,cur,rfl,h4,by rw[ko.block g (Array.getElem?_eq_some_iff.1 hg).1 (hn g (by simp[blk]))];exact hg,h5⟩
theorem RowA.below {LB:Nat} {w0 w w':World} {v:Value} {l:List AtomD} (h:RowA LB w0 w v l) (hb:Below w.heap.size w w'):RowA LB w0 w' v l:=h.only (OnlyAt.ofBelow [] hb) (fun _ _ hm=>by simp at hm)
theorem RowA.rd {LB:Nat} {w0 w:World} {v:Value} {l:List AtomD} (h:RowA LB w0 w v l) (hb:Below w0.heap.size w0 w):RdAtomS w v l:=by
 obtain⟨W,cs,hW,h1,h2⟩:=h.built;exact rd_row h1 rfl (h2.below hb)
theorem RowA.form {LB:Nat} {w0 w:World} {v:Value} {l:List AtomD} (h:RowA LB w0 w v l):∃a c,v=.slice a l.length c:=by
 obtain⟨W,cs,hW,h1,_⟩:=h.built;rcases h1.form with⟨rfl,h0⟩|⟨g,cap,rfl,_⟩
 ·exact⟨none,0,by rw[h0]⟩
 ·exact⟨_,_,rfl⟩
theorem Cs2.snoc {w:World} {L:List Value} {l:List AtomD} (h:Cs2 w L l) (hL:L.length=l.length*2) {e:AtomD} {a:Option Addr} {m c:Nat} (hi:inI e.1) (he:Ints w (.slice a m c) e.2):Cs2 w (L++[.int .i64 e.1,.slice a m c]) (l++[e]):=by
 intro j d hd;by_cases hj:j<l.length
 ·rw[List.getElem?_append_left hj] at hd;obtain⟨a',m',c',h1,h2,h3⟩:=h j d hd;exact⟨a',m',c',by rw[List.getElem?_append_left (by omega)];exact h1,by rw[List.getElem?_append_left (by omega)];exact h2,h3⟩
 ·rw[List.getElem?_append_right (by omega)] at hd
  have h0:j-l.length=0:=by
   have:=(List.getElem?_eq_some_iff.1 hd).1;simp at this;omega
  rw[h0] at hd;simp at hd;subst hd;refine⟨a,m,c,?_,?_,hi,he⟩
  ·rw[List.getElem?_append_right (by omega),show j*2-L.length=0 by omega];rfl
  ·rw[List.getElem?_append_right (by omega),show j*2+1-L.length=1 by omega];rfl
def pk9 (a:AtomD):Value:=packed a.1 a.2.length a.2
theorem pk9_key {a:AtomD} (hr:inI a.1) (hi:∀x∈a.2,inI x) (hz:a.2.length≤1048576):∃kl,keyOf Tryz.prog 163 (pk9 a)=some kl:=
 packKey9 hr (by unfold inI;omega) (inI_getD hi 0) (inI_getD hi 1) (inI_getD hi 2)
def Bks (LB:Nat) (w0 w:World) (L:List AtomD) (es:Array MapEntry) (kv:Value):Prop:=
 ∃ats:List (Value × Value × List AtomD),prs9 es=ats.map (fun p=>(p.1,p.2.1))∧(∀p∈ats,RowA LB w0 w p.2.1 p.2.2)∧(∀p∈ats,∀b∈blk p.2.1,b∉blk kv)∧(∀(i j:Nat) (p q:Value × Value × List AtomD),ats[i]?=some p→ats[j]?=some q→i≠j→p.1≠q.1∧∀b∈blk p.2.1,b∉blk q.2.1)∧(∀p∈ats,p.2.2.length≤L.length∧∀a∈p.2.2,a∈L)∧∀a∈L,∃p∈ats,p.1=pk9 a∧a∈p.2.2
theorem Bks.nil (LB:Nat) (w0 w:World) (kv:Value):Bks LB w0 w [] #[] kv:=⟨[],rfl,fun p hp=>by simp at hp,fun p hp=>by simp at hp,fun i j p q h=>by simp at h,fun p hp=>by simp at hp,fun a ha=>by simp at ha⟩
theorem Bks.below {LB:Nat} {w0 w w':World} {L:List AtomD} {es:Array MapEntry} {kv:Value} (h:Bks LB w0 w L es kv) (hb:Below w.heap.size w w'):Bks LB w0 w' L es kv:=by
 obtain⟨ats,h1,h2,h3⟩:=h;exact⟨ats,h1,fun p hp=>(h2 p hp).below hb,h3⟩
theorem Bks.kept {LB:Nat} {w0 w w':World} {L:List AtomD} {es:Array MapEntry} {kv kv':Value} (h:Bks LB w0 w L es kv) (ko:OnlyAt (blk kv) w w') (hv:∀b∈blk kv',b∈blk kv∨w.heap.size≤b):Bks LB w0 w' L es kv':=by
 obtain⟨ats,h1,h2,h3,h4,h5⟩:=h;refine⟨ats,h1,fun p hp=>(h2 p hp).only ko (h3 p hp),fun p hp b hb hm=>?_,h4,h5⟩;rcases hv b hm with h|h
 ·exact h3 p hp b hb h
 ·have:=((h2 p hp).lo b hb).2;omega
theorem Bks.find {LB:Nat} {w0 w:World} {L:List AtomD} {es:Array MapEntry} {kv v0:Value} {e:AtomD} (h:Bks LB w0 w L es kv) (hL:LB≤w.heap.size) (hkv:∀b∈blk kv,b<w.heap.size)
  (hd:(∃j:Nat,(prs9 es)[j]?=some (pk9 e,v0))∨((∀x∈prs9 es,x.1≠pk9 e)∧v0=.slice none 0 0)) :
  ∃l0,RowA LB w0 w v0 l0∧l0.length≤L.length∧(e∈l0↔e∈L)∧(∀b∈blk v0,b∉blk kv)∧
   ∀(w':World) (val:Value) (es2:Array MapEntry) (M:Nat),OnlyAt (M::blk v0) w w'→M<LB→RowA LB w0 w' val (l0++[e])→(∀b∈blk val,b∈blk v0∨w.heap.size≤b)→
    ((∃j:Nat,(prs9 es)[j]?=some (pk9 e,v0)∧prs9 es2=(prs9 es).set j (pk9 e,val))∨((∀x∈prs9 es,x.1≠pk9 e)∧v0=.slice none 0 0∧prs9 es2=prs9 es++[(pk9 e,val)]))→Bks LB w0 w' (L++[e]) es2 kv:=by
 obtain⟨ats,h1,h2,h3,h4,h5,h6⟩:=h;rcases hd with⟨j,hj⟩|⟨hno,rfl⟩
 ·have hjj:=hj;rw[h1,List.getElem?_map,Option.map_eq_some_iff] at hjj;obtain⟨p,hp,hpe⟩:=hjj;obtain⟨e1,e2⟩:=Prod.mk.inj hpe;subst e2;have hpm:=List.mem_of_getElem? hp
  have huniq:∀j' p',ats[j']?=some p'→p'.1=pk9 e→j'=j:=fun j' p' hp' he=>by
   by_cases hjj:j'=j
   ·exact hjj
   ·exact absurd (he.trans e1.symm) (h4 j' j p' p hp' hp hjj).1
  refine⟨p.2.2,h2 p hpm,(h5 p hpm).1,⟨fun he=>(h5 p hpm).2 e he,fun he=>?_⟩,h3 p hpm,fun w' val es2 M ko hM hrow hbv hput=>?_⟩
  ·obtain⟨p',hp',hk,hm⟩:=h6 e he;obtain⟨j',hj'⟩:=List.mem_iff_getElem?.1 hp';have:=huniq j' p' hj' hk;subst this;rw[hp] at hj';cases hj';exact hm
  ·rcases hput with⟨j',hj',hset⟩|⟨hno,_⟩
   ·rw[h1,List.getElem?_map,Option.map_eq_some_iff] at hj';obtain⟨p',hp',hpe'⟩:=hj';have:=huniq j' p' hp' (Prod.mk.inj hpe').1;subst this;have hjl:=(List.getElem?_eq_some_iff.1 hp).1
    have hget:∀i q,(ats.set j' (pk9 e,val,p.2.2++[e]))[i]?=some q→(i=j'∧q=(pk9 e,val,p.2.2++[e]))∨(i≠j'∧ats[i]?=some q):=fun i q hq=>by
     rw[List.getElem?_set] at hq
     split at hq
     ·rename_i hi
      first|(cases hq;exact .inl ⟨hi.symm,rfl⟩)|(rw[if_pos (by omega)] at hq;cases hq;exact .inl ⟨hi.symm,rfl⟩)
     ·rename_i hi
      exact .inr ⟨fun h=>hi h.symm,hq⟩
    have hoth:∀i q,ats[i]?=some q→i≠j'→∀b∈blk q.2.1,b∉M::blk p.2.1:=fun i q hq hi b hb hm=>by
     rcases List.mem_cons.1 hm with h|h
     ·have:=((h2 q (List.mem_of_getElem? hq)).lo b hb).1;omega
     ·exact (h4 i j' q p hq hp hi).2 b hb h
    refine⟨ats.set j' (pk9 e,val,p.2.2++[e]),by rw[hset,h1,List.map_set],fun q hq=>?_,fun q hq b hb hm=>?_,fun i k q q' hq hq' hne=>?_,fun q hq=>⟨?_,fun a ha=>?_⟩,fun a ha=>?_⟩
    ·obtain⟨i,hi⟩:=List.mem_iff_getElem?.1 hq;rcases hget i q hi with⟨_,rfl⟩|⟨hne,hq0⟩
     ·exact hrow
     ·exact (h2 q (List.mem_of_getElem? hq0)).only ko (hoth i q hq0 hne)
    ·obtain⟨i,hi⟩:=List.mem_iff_getElem?.1 hq;rcases hget i q hi with⟨_,rfl⟩|⟨hne,hq0⟩
     ·rcases hbv b hb with h|h
      ·exact h3 p hpm b h hm
      ·have:=hkv b hm;omega
     ·exact h3 q (List.mem_of_getElem? hq0) b hb hm
    ·rcases hget i q hq with⟨rfl,rfl⟩|⟨hne1,hq1⟩
     ·rcases hget k q' hq' with⟨rfl,rfl⟩|⟨hne2,hq2⟩
      ·exact absurd rfl hne
      ·have h7:=h4 i k p q' hp hq2 hne;refine⟨by rw[←e1];exact h7.1,fun b hb hm=>?_⟩;rcases hbv b hb with h|h
       ·exact h7.2 b h hm
       ·have:=((h2 q' (List.mem_of_getElem? hq2)).lo b hm).2;omega
     ·rcases hget k q' hq' with⟨rfl,rfl⟩|⟨hne2,hq2⟩
      ·have h7:=h4 i k q p hq1 hp hne;refine⟨by rw[←e1];exact h7.1,fun b hb hm=>?_⟩;rcases hbv b hm with h|h
       ·exact h7.2 b hb h
       ·have:=((h2 q (List.mem_of_getElem? hq1)).lo b hb).2;omega
      ·exact h4 i k q q' hq1 hq2 hne
    ·obtain⟨i,hi⟩:=List.mem_iff_getElem?.1 hq;rcases hget i q hi with⟨_,rfl⟩|⟨hne,hq0⟩
     ·have:=(h5 p hpm).1;simp;omega
     ·have:=(h5 q (List.mem_of_getElem? hq0)).1;simp;omega
    ·obtain⟨i,hi⟩:=List.mem_iff_getElem?.1 hq;rcases hget i q hi with⟨_,rfl⟩|⟨hne,hq0⟩
     ·rcases List.mem_append.1 ha with h|h
      ·exact List.mem_append_left _ ((h5 p hpm).2 a h)
      ·exact List.mem_append_right _ h
     ·exact List.mem_append_left _ ((h5 q (List.mem_of_getElem? hq0)).2 a ha)
    ·have hnew:(pk9 e,val,p.2.2++[e])∈ats.set j' (pk9 e,val,p.2.2++[e]):=List.mem_of_getElem? (by rw[List.getElem?_set_self hjl]);rcases List.mem_append.1 ha with h|h
     ·obtain⟨q,hq,hk,hm⟩:=h6 a h;obtain⟨i,hi⟩:=List.mem_iff_getElem?.1 hq;by_cases hij:i=j'
      ·subst hij;rw[hp] at hi;cases hi;exact⟨_,hnew,by rw[←hk];exact e1.symm,List.mem_append_left _ hm⟩
      ·exact⟨q,List.mem_of_getElem? (i:=i) (by rw[List.getElem?_set_ne (fun h=>hij h.symm)];exact hi),hk,hm⟩
     ·rw[List.mem_singleton.1 h];exact⟨_,hnew,rfl,by simp⟩
   ·exact absurd rfl (hno _ (List.mem_of_getElem? hj))
 ·have hnok:∀p∈ats,p.1≠pk9 e:=fun p hp=>hno (p.1,p.2.1) (by rw[h1];exact List.mem_map.2 ⟨p,hp,rfl⟩)
  refine⟨[],RowA.nil hL,Nat.zero_le _,⟨fun he=>by simp at he,fun he=>?_⟩,fun b hb=>by simp[blk] at hb,fun w' val es2 M ko hM hrow hbv hput=>?_⟩
  ·obtain⟨p',hp',hk,hm⟩:=h6 e he;exact absurd hk (hnok p' hp')
  ·rcases hput with⟨j',hj',hset⟩|⟨_,_,hset⟩
   ·exact absurd rfl (hno _ (List.mem_of_getElem? hj'))
   ·have hbv2:∀b∈blk val,w.heap.size≤b:=fun b hb=>by
     rcases hbv b hb with h|h
     ·simp[blk] at h
     ·exact h
    have hget:∀i q,(ats++[(pk9 e,val,[e])])[i]?=some q→(i=ats.length∧q=(pk9 e,val,[e]))∨(i≠ats.length∧ats[i]?=some q):=fun i q hq=>by
     by_cases hi:i<ats.length
     ·rw[List.getElem?_append_left hi] at hq;exact .inr ⟨by omega,hq⟩
     ·rw[List.getElem?_append_right (by omega)] at hq
      have h0:i-ats.length=0:=by
       have:=(List.getElem?_eq_some_iff.1 hq).1;simp at this;omega
      rw[h0] at hq;simp at hq;exact .inl ⟨by omega,hq.symm⟩
    have hoth:∀q∈ats,∀b∈blk q.2.1,b∉M::blk (.slice none 0 0):=fun q hq b hb hm=>by
     simp[blk] at hm;have:=((h2 q hq).lo b hb).1;omega
    refine⟨ats++[(pk9 e,val,[e])],by rw[hset,h1,List.map_append];rfl,fun q hq=>?_,fun q hq b hb hm=>?_,fun i k q q' hq hq' hne=>?_,fun q hq=>⟨?_,fun a ha=>?_⟩,fun a ha=>?_⟩
    ·rcases List.mem_append.1 hq with h|h
     ·exact (h2 q h).only ko (hoth q h)
     ·rw[List.mem_singleton.1 h];exact hrow
    ·rcases List.mem_append.1 hq with h|h
     ·exact h3 q h b hb hm
     ·rw[List.mem_singleton.1 h] at hb;have:=hbv2 b hb;have:=hkv b hm;omega
    ·rcases hget i q hq with⟨rfl,rfl⟩|⟨hne1,hq1⟩
     ·rcases hget k q' hq' with⟨rfl,rfl⟩|⟨hne2,hq2⟩
      ·exact absurd rfl hne
      ·have hm2:=List.mem_of_getElem? hq2;refine⟨fun h=>hnok q' hm2 h.symm,fun b hb hm=>?_⟩;have:=hbv2 b hb;have:=((h2 q' hm2).lo b hm).2;omega
     ·rcases hget k q' hq' with⟨rfl,rfl⟩|⟨hne2,hq2⟩
      ·have hm1:=List.mem_of_getElem? hq1;refine⟨hnok q hm1,fun b hb hm=>?_⟩;have:=hbv2 b hm;have:=((h2 q hm1).lo b hb).2;omega
      ·exact h4 i k q q' hq1 hq2 hne
    ·rcases List.mem_append.1 hq with h|h
     ·have:=(h5 q h).1;simp;omega
     ·rw[List.mem_singleton.1 h];simp
    ·rcases List.mem_append.1 hq with h|h
     ·exact List.mem_append_left _ ((h5 q h).2 a ha)
     ·rw[List.mem_singleton.1 h] at ha;exact List.mem_append_right _ ha
    ·rcases List.mem_append.1 ha with h|h
     ·obtain⟨q,hq,hk,hm⟩:=h6 a h;exact⟨q,List.mem_append_left _ hq,hk,hm⟩
     ·rw[List.mem_singleton.1 h];exact⟨(pk9 e,val,[e]),by simp,rfl,by simp⟩
set_option maxRecDepth 100000 in
set_option maxHeartbeats 16000000 in
theorem iDedupe_any (w:World) (v:Value) (d:QueryD) (h:RdQuery w v d) (hz:sizeQuery d≤1048576) :
  Calls Tryz.prog 87 #[v] w (GaveO (fun w' v' bs=>ROQuery w' v' (ddQ d) bs) w):=by
 have hs2:sizeAtomS d.2≤1048576:=by unfold sizeQuery at hz;omega
 obtain⟨a0,n0,c0,a,n,c,rfl,hi,ha⟩:=h;obtain⟨hl,hn,hm,hcell⟩:=ha.at
 unfold maxLen at hm;have HNQ:=Lib.hid (fun W x (hb:Below w.heap.size w W) (hx:RdAtomS W x (ddA d.2))=>iNewQuery_any W (.slice a0 n0 c0) x d.1 (ddA d.2) (hi.below hb) hx (by have:=ddA_size d.2;unfold sizeQuery at hz;omega));have HC:=Lib.hid hcell;have HL:=Lib.hid hl;have HSA:=Lib.hid hs2;have hln:n≤1048576:=by unfold sizeAtomS at hs2;omega
 have hb0:∀a b c,Below w.heap.size w (((w.alloc a).alloc b).alloc c):=fun a b c=>(((Below.refl _ _).alloc (Nat.le_refl _) _).alloc (by simp) _).alloc (by simp;omega) _
 have HB0:=Lib.hid hb0;have hmm:=@run_makeMap Tryz.prog;clear hi ha hcell hl hb0 hs2 hz;go_enter Tryz.func87,Tryz.ntmps87
 go_wp2_with fail
 clear hmm;obtain⟨W,hW⟩:∃W,W=((w.alloc (.cells #[.slice a0 n0 c0,.slice a n c] 29)).alloc (.cells #[.slice none 0 0,.slice none 0 0] 29)).alloc (.map #[] 0):=⟨_,rfl⟩
 have HBW:Hid (Below w.heap.size w W):=by rw[hW];exact HB0.out _ _ _
 have Q1:Hid (W.cell? ⟨w.heap.size,0,none⟩=some (.slice a0 n0 c0)):=by rw[hW];exact box1 w _ _ _ _ 0 _ rfl
 have Q2:Hid (W.cell? ⟨w.heap.size,1,none⟩=some (.slice a n c)):=by rw[hW];exact box1 w _ _ _ _ 1 _ rfl
 have K0:Hid (W.cell? ⟨w.heap.size+1,0,none⟩=some (.slice none 0 0)):=by rw[hW];exact box2 w _ _ _ _ 0 _ rfl
 have K1:Hid (W.cell? ⟨w.heap.size+1,1,none⟩=some (.slice none 0 0)):=by rw[hW];exact box2 w _ _ _ _ 1 _ rfl
 have F0:Hid (W.frozen? ⟨w.heap.size+1,0,none⟩=false):=by rw[hW];exact frz2 w _ _ _ _ 0 _ rfl
 have F1:Hid (W.frozen? ⟨w.heap.size+1,1,none⟩=false):=by rw[hW];exact frz2 w _ _ _ _ 1 _ rfl
 obtain⟨M,hM⟩:∃M,M=w.heap.size+1+1:=⟨_,rfl⟩
 have HM0:Hid (W.heap[M]?=some (.map #[] 0)):=by
  rw[hW,hM];have:=heap_alloc_new ((w.alloc (.cells #[.slice a0 n0 c0,.slice a n c] 29)).alloc (.cells #[.slice none 0 0,.slice none 0 0] 29)) (.map #[] 0);have e2:((w.alloc (.cells #[.slice a0 n0 c0,.slice a n c] 29)).alloc (.cells #[.slice none 0 0,.slice none 0 0] 29)).heap.size=w.heap.size+1+1:=by simp
  rw[e2] at this;exact this
 have HSZ:Hid (W.heap.size=M+1):=by rw[hW,hM];exact Lib.hid (by simp)
 have HMV:=Lib.hid hM;rw[←hW,←hM];clear hW hM;have hmlt:M<W.heap.size:=by have:=HSZ.out;omega
 have HMLT:=Lib.hid hmlt;clear hmlt
 go_loopw [4,12] (fun kv iv wr=>∃i:Nat,i≤n∧iv=.int .i64 i∧∃(ka:Option Addr) (kn kc:Nat) (es:Array MapEntry) (clock:Nat),kv=.slice ka kn kc∧Hid (wr.heap[M]?=some (.map es clock))∧Hid (Keyed9 Tryz.prog 163 es clock)∧Hid (Bks W.heap.size w wr (ddA (d.2.take i)) es (.slice ka kn kc))∧Hid (RowA W.heap.size w wr (.slice ka kn kc) (ddA (d.2.take i)))∧Hid (OnlyAt [M] W wr)) (fun _ iv _=>n-(intOf iv).toNat)
 case atStart=>exact⟨0,by omega,rfl,none,0,0,#[],0,rfl,HM0,Lib.hid (Keyed9.empty _ _ _),Lib.hid (Bks.nil _ _ _ _),Lib.hid (RowA.nil (Nat.le_refl _)),Lib.hid (OnlyAt.refl _ _)⟩
 case round=>
  obtain⟨wO,hwO⟩:∃x,x=wr:=⟨_,rfl⟩
  subst hwO;obtain⟨i,hi,rfl,ka,kn,kc,es,clock,rfl,HM,HK,HBK,HKR,HON⟩:=hrel;have HBO:Hid (Below w.heap.size w wO):=OnlyAt.below HBW.out HON.out (fun x hx=>by have:=HMV.out;simp at hx;omega)
  have hkn:kn=(ddA (d.2.take i)).length:=by
   obtain⟨_,_,e⟩:=HKR.out.form
   cases e;rfl
  subst hkn;by_cases hlt:i<n
  ·obtain⟨b,off,rfl,hbw,hc⟩:=HC.out (by omega);obtain⟨e,hd⟩:∃e,d.2[i]?=some e:=⟨d.2[i]'(by rw[HL.out];exact hlt),List.getElem?_eq_getElem (by rw[HL.out];exact hlt)⟩
   obtain⟨ea,em,ec,c0',c1',hdi,hints⟩:=atomAt (n:=n) hc i e hd;have r0:=cellk HBO.out c0';have r1:=cellk HBO.out c1';have hi0:(0:Int)≤i:=by omega
   have hi1:(i:Int)<n:=by omega
   have hez:e.2.length≤1048576:=by
    have h5:=sumArgs_take hd;have h6:=sumArgs_le d.2 (i+1);have h7:=HSA.out;unfold sizeAtomS at h7;omega
   have HTK:=Lib.hid (ddA_take hd);have hlen2:(ddA (d.2.take i)).length≤i:=by have:=ddA_len (d.2.take i);simp at this;omega
   have HDI:=Lib.hid hdi;have HINT:=Lib.hid hints;have HEZ:=Lib.hid hez;obtain⟨kl,hkl⟩:=pk9_key hdi hints.1 hez;have HKL:=Lib.hid hkl;have hmO:M<wO.heap.size:=(Array.getElem?_eq_some_iff.1 HM.out).1;have hLO:W.heap.size≤wO.heap.size:=HON.out.size;generalize hLL:ddA (d.2.take i)=L at *;obtain⟨v0,st,es1,clock1,hlk,hlk1,hent,hput⟩:=incr9 (b:=M) packLaw9 Tryz.underlying160 (z:=.slice none 0 0) (fun _=>by kernel_rfl) HK.out HKL.out;obtain⟨es',_,_,hdj⟩:=hput v0
   obtain⟨l0,hrow0,hl0,hmem,hdis,hnext⟩:=Bks.find HBK.out hLO (fun b hb=>(HKR.out.lo b hb).2) (by
    rcases hdj with⟨j,h1,_⟩|⟨h1,h2,_⟩
    ·exact .inl ⟨j,h1⟩
    ·exact .inr ⟨h1,h2⟩)
   obtain⟨va,vc,rfl⟩:=hrow0.form;have hpk:pk9 e=.agg #[.int .i64 e.1,.int .i64 (e.2.length:Int),.int .i64 (e.2.getD 0 0),.int .i64 (e.2.getD 1 0),.int .i64 (e.2.getD 2 0)]:=rfl;rw[hpk] at hlk hent hput;have HPKE:=Lib.hid hpk;have HPA:Hid (∀W1,Below w.heap.size w W1→Calls Tryz.prog 137 #[.agg #[.int .i64 e.1,.slice ea em ec]] W1 fun e1 w'=>e1=.returned (.agg #[.int .i64 e.1,.int .i64 (e.2.length:Int),.int .i64 (e.2.getD 0 0),.int .i64 (e.2.getD 1 0),.int .i64 (e.2.getD 2 0)])∧Below W1.heap.size W1 w'):=fun W1 hb=>iPack_any W1 e.1 (.slice ea em ec) e.2 (HINT.out.below hb)
   have HHAS:=Lib.hid (fun W1 (hb:Below wO.heap.size wO W1)=>iHas_any W1 (.slice va l0.length vc) l0 ea em ec e ((hrow0.below hb).rd (bnext HBO.out hb)) (HINT.out.below (bnext HBO.out hb)) hez (by omega));have HROW0:=Lib.hid hrow0;have HDIS:=Lib.hid hdis;have HNEXT:=Lib.hid hnext;have HLK:=Lib.hid hlk;have HENT:=Lib.hid hent;have HPUT:=Lib.hid hput;obtain⟨q,hq⟩:∃q,decide (e∈l0)=q:=⟨_,rfl⟩
   rw[hq] at HHAS
   have HMEM:Hid (decide (e∈L)=q):=by
    rw[←hq];by_cases h:e∈l0
    ·rw[decide_eq_true h,decide_eq_true (hmem.1 h)];exact Lib.hid rfl
    ·rw[decide_eq_false h,decide_eq_false (fun h2=>h (hmem.2 h2))];exact Lib.hid rfl
   have hl0z:l0.length≤1048576:=by omega
   have hLz:L.length≤1048576:=by omega
   obtain⟨ln,hln2⟩:∃ln:Int,ln=(e.2.length:Int):=⟨_,rfl⟩
   rw[←hln2] at HPA HLK HENT HPUT HPKE;generalize hx0:e.2.getD 0 0=x0 at *;generalize hx1:e.2.getD 1 0=x1 at *;generalize hx2:e.2.getD 2 0=x2 at *;generalize hr:e.1=r at *;have HR:=Lib.hid hr;clear hc hbw hd c0' c1' hdi hints hez hkl hLL hlk hlk1 hent hput hdj hrow0 hl0 hmem hdis hnext hpk hq hln2 hx0 hx1 hx2 hr;have HAW:=Lib.hid (below_alloc wO (.cells #[.int .i64 r,.slice ea em ec] 83));have a0':(wO.alloc (.cells #[.int .i64 r,.slice ea em ec] 83)).cell? ⟨wO.heap.size,0,none⟩=some (.int .i64 r):=newBox wO _ _ 0 _ rfl;have a1':(wO.alloc (.cells #[.int .i64 r,.slice ea em ec] 83)).cell? ⟨wO.heap.size,1,none⟩=some (.slice ea em ec):=newBox wO _ _ 1 _ rfl;go_wp2_with fail
   refine (HPA.out _ (bnext HBO.out HAW.out)).mono ?_;rintro e2 w2 ⟨rfl,hb2⟩;have hal:=below_alloc w2 (.cells #[.int .i64 r,.int .i64 ln,.int .i64 x0,.int .i64 x1,.int .i64 x2] 163);have HB3:=Lib.hid (bnext (bnext HAW.out hb2) hal);replace a0':=cellk (bnext hb2 hal) a0';replace a1':=cellk (bnext hb2 hal) a1';have p0:=newBox w2 #[.int .i64 r,.int .i64 ln,.int .i64 x0,.int .i64 x1,.int .i64 x2] 163 0 _ rfl;have p1:=newBox w2 #[.int .i64 r,.int .i64 ln,.int .i64 x0,.int .i64 x1,.int .i64 x2] 163 1 _ rfl;have p2:=newBox w2 #[.int .i64 r,.int .i64 ln,.int .i64 x0,.int .i64 x1,.int .i64 x2] 163 2 _ rfl;have p3:=newBox w2 #[.int .i64 r,.int .i64 ln,.int .i64 x0,.int .i64 x1,.int .i64 x2] 163 3 _ rfl;have p4:=newBox w2 #[.int .i64 r,.int .i64 ln,.int .i64 x0,.int .i64 x1,.int .i64 x2] 163 4 _ rfl;clear hb2 hal r0 r1;go_upto_region 7 with fail
   obtain⟨w3,hw3⟩:∃x,x=w2.alloc (.cells #[.int .i64 r,.int .i64 ln,.int .i64 x0,.int .i64 x1,.int .i64 x2] 163):=⟨_,rfl⟩
   rw[←hw3] at p0 p1 p2 p3 p4 a0' a1' HB3 ⊢;clear hw3;have HM3:Hid (w3.heap[M]?=some (.map es clock)):=zbk9 HB3.out HM.out;have hne7:w2.heap.size≠M∧wO.heap.size≠M:=⟨by have:=zb9_lt p0;intro h;subst h;have:=HM3.out;unfold World.cell? at p0;rw[this] at p0;simp at p0,by omega⟩;have hneM:=hne7.2;clear hne7
   go_region_held3 (fun w'=>w'.cell? ⟨w2.heap.size,0,none⟩=some (.int .i64 r)∧w'.cell? ⟨w2.heap.size,1,none⟩=some (.int .i64 ln)∧w'.cell? ⟨w2.heap.size,2,none⟩=some (.int .i64 x0)∧w'.cell? ⟨w2.heap.size,3,none⟩=some (.int .i64 x1)∧w'.cell? ⟨w2.heap.size,4,none⟩=some (.int .i64 x2)∧w'.cell? ⟨wO.heap.size,0,none⟩=some (.int .i64 r)∧w'.cell? ⟨wO.heap.size,1,none⟩=some (.slice ea em ec)∧(Instr.lookup 160 (.map (some M)) (.agg #[.int .i64 r,.int .i64 ln,.int .i64 x0,.int .i64 x1,.int .i64 x2]) false).run Tryz.prog w'=.ok (.slice va l0.length vc) w'∧Below w3.heap.size w3 w')
    (first|assumption|exact⟨by simpa using p0,by simpa using p1,by simpa using p2,by simpa using p3,by simpa using p4,by simpa using a0',by simpa using a1',HLK.out _ HM3.out,(Below.refl _ _).drew⟩|(go_split_ands;exact⟨cellk (by assumption) (by assumption),cellk (by assumption) (by assumption),cellk (by assumption) (by assumption),cellk (by assumption) (by assumption),cellk (by assumption) (by assumption),cellk (by assumption) (by assumption),cellk (by assumption) (by assumption),HLK.out _ (zbk9 (bnext (by assumption) (by assumption)) HM3.out),bnext (by assumption) (by assumption)⟩))
    (first
     |(go_at_call 138;(try go_split_ands);refine (HHAS.out _ (bnext HB3.out (by assumption))).mono ?_;rintro e3 w4 ⟨rfl,hb4⟩))
   all_goals (try go_split_ands)
   have hb34:Below w3.heap.size w3 w4:=by assumption
   have HM4:Hid (w4.heap[M]?=some (.map es clock)):=zbk9 hb34 HM3.out;replace a0':=cellk hb34 a0';replace a1':=cellk hb34 a1';replace p0:=cellk hb34 p0;replace p1:=cellk hb34 p1;replace p2:=cellk hb34 p2;replace p3:=cellk hb34 p3;replace p4:=cellk hb34 p4;have HB4:=Lib.hid (bnext HB3.out hb34);clear hb34;clear HLK HHAS HM3 HAW HPA
   cases q with
   |true=>
    have HRT:Hid (ddA (d.2.take (i+1))=L):=by rw[HTK.out,if_pos (of_decide_eq_true HMEM.out)];exact Lib.hid rfl
    go_wp2_with fail
    exact⟨⟨i+1,by omega,by simp,_,_,_,es,clock,rfl,HM4,HK,by rw[HRT.out];exact Lib.hid (HBK.out.below HB4.out),by rw[HRT.out];exact Lib.hid (HKR.out.below HB4.out),Lib.hid (HON.out.above (OnlyAt.ofBelow [] HB4.out) (by simp))⟩,by simp[intOf];omega⟩
   |false=>
    have HRT:Hid (ddA (d.2.take (i+1))=L++[e]):=by rw[HTK.out,if_neg (of_decide_eq_false HMEM.out)];exact Lib.hid rfl
    have HA4:=Lib.hid (below_alloc w4 (.cells #[.int .i64 r,.slice ea em ec] 83));obtain⟨w5,hw5⟩:∃x,x=w4.alloc (.cells #[.int .i64 r,.slice ea em ec] 83):=⟨_,rfl⟩
    have HM5:Hid (w5.heap[M]?=some (.map es clock)):=by rw[hw5];exact zbk9 HA4.out HM4.out
    have HEL5:Hid (w5.heap[w4.heap.size]?=some (.cells #[.int .i64 r,.slice ea em ec] 83)):=by rw[hw5];exact heap_alloc_new w4 _
    have HB45:Hid (Below w4.heap.size w4 w5):=by rw[hw5];exact HA4
    have hentE:=HENT.out _ HM5.out;obtain⟨w6,hw6⟩:∃x,x=setBlock w5 M (.map es1 clock1):=⟨_,rfl⟩
    rw[←hw6] at hentE;have HK56:Hid (OnlyAt [M] w5 w6):=by rw[hw6];exact setBlock_only9 _ _ _
    have HM6:Hid (w6.heap[M]?=some (.map es1 clock1)):=by rw[hw6];exact setBlock_heap9 HM5.out
    have hM4lt:M<w4.heap.size:=(Array.getElem?_eq_some_iff.1 HM4.out).1;have h45:=HB45.out.size;have h5lt:w4.heap.size<w5.heap.size:=(Array.getElem?_eq_some_iff.1 HEL5.out).1;have HEL6:Hid (w6.heap[w4.heap.size]?=some (.cells #[.int .i64 r,.slice ea em ec] 83 (0,0))):=(HK56.out.block _ h5lt (by simp;omega)).trans HEL5.out;have s0:=HK56.out.cell (by simpa using hneM) (cellk HB45.out a0');have s1:=HK56.out.cell (by simpa using hneM) (cellk HB45.out a1');have HB05:=Lib.hid (bnext HB4.out HB45.out);have hmlt:=HMLT.out;have hnotM:∀(x:Value) (lx:List AtomD),RowA W.heap.size w wO x lx→∀b∈blk x,b∉[M]:=fun x lx hx b hb hm=>by have:=(hx.lo b hb).1;simp at hm;omega
    have HR6:=Lib.hid ((HROW0.out.below HB05.out).only HK56.out (hnotM _ _ HROW0.out));obtain⟨WB,csB,hWB,hbB,hcB⟩:=HR6.out.built;have HBB:=Lib.hid hbB;have HCB:=Lib.hid hcB;have HWB:=Lib.hid hWB;rw[hw5] at hentE;clear hw5 hw6 hbB hcB hWB hnotM;go_wp2_with (at_builtin;refine wpList_app1E rfl (.tmp 26) (.tmp 28) 106 rfl 83 (.agg #[.int .i64 0,.slice none 0 0]) 2 32 Tryz.underlying106 info_Atom (by decide) (by decide) (by rfl) (.slice va l0.length vc) l0.length csB rfl HBB.out w4.heap.size [.int .i64 r,.slice ea em ec] rfl (by simp[Value.oneCell']) rfl HEL6.out (by omega) ?_)
    intro g' cap' w7 hown7 ko7 hbl7;have hrlo:∀b∈blk (.slice va l0.length vc),W.heap.size≤b∧b<wO.heap.size:=HROW0.out.lo;have hklo:∀b∈blk (.slice ka L.length kc),W.heap.size≤b∧b<wO.heap.size:=HKR.out.lo;have h6lt:M<w6.heap.size:=(Array.getElem?_eq_some_iff.1 HM6.out).1;have h06:wO.heap.size≤w6.heap.size:=Nat.le_trans HB05.out.size HK56.out.size;have HM7:Hid (w7.heap[M]?=some (.map es1 clock1)):=(ko7.block M h6lt (fun h=>by have:=(hrlo _ h).1;omega)).trans HM6.out;obtain⟨es2,hk2,hst,hdisj⟩:=HPUT.out (.slice (some ⟨g',0,none⟩) (l0.length+1) cap');rw[←HPKE.out] at hdisj;have hstE:(Instr.entryStore 160 (.map (some M)) (.int .i64 (st:Int)) (.slice (some ⟨g',0,none⟩) (l0.length+1) cap')).run Tryz.prog w7=.ok () (setBlock w7 M (.map es2 clock1)):=hst _ HM7.out;obtain⟨w8,hw8⟩:∃x,x=setBlock w7 M (.map es2 clock1):=⟨_,rfl⟩
    rw[←hw8] at hstE;have HK78:Hid (OnlyAt [M] w7 w8):=by rw[hw8];exact setBlock_only9 _ _ _
    have HM8:Hid (w8.heap[M]?=some (.map es2 clock1)):=by rw[hw8];exact setBlock_heap9 HM7.out
    have ko08:OnlyAt (M::blk (.slice va l0.length vc)) wO w8:=(((OnlyAt.ofBelow _ HB05.out).same (HK56.out.sub9 (by simp))).same (ko7.sub9 (fun b hb=>List.mem_cons_of_mem _ hb))).same (HK78.out.sub9 (by simp));have hbv:∀b∈blk (.slice (some ⟨g',0,none⟩) (l0.length+1) cap'),b∈blk (.slice va l0.length vc)∨wO.heap.size≤b:=fun b hb=>(hbl7 b hb).imp id (fun h=>by omega)
    have hlenB:(l0++[e]).length=l0.length+1:=by simp
    have hrowV:RowA W.heap.size w w7 (.slice (some ⟨g',0,none⟩) (l0.length+1) cap') (l0++[e]):=by
     refine RowA.ofBuilt HWB.out (cs:=csB++[.int .i64 r,.slice ea em ec]) (by rw[hlenB];exact hown7) ?_;have:=Cs2.snoc HCB.out HBB.out.len (e:=e) (a:=ea) (m:=em) (c:=ec) (by rw[HR.out];exact HDI.out) HINT.out
     rwa [HR.out] at this
    have hval:RowA W.heap.size w w8 (.slice (some ⟨g',0,none⟩) (l0.length+1) cap') (l0++[e]):=hrowV.only HK78.out (fun b hb hm=>by have:=(hrowV.lo b hb).1;simp at hm;omega);have HBK8:=Lib.hid (HNEXT.out w8 _ es2 M ko08 hmlt hval hbv hdisj)
    have HKR8:=Lib.hid (HKR.out.only ko08 (fun b hb hm=>by
     rcases List.mem_cons.1 hm with h|h
     ·have:=(hklo b hb).1;omega
     ·exact HDIS.out b h hb))
    have hsO:wO.heap.size∉blk (.slice va l0.length vc):=fun h=>by have:=(hrlo _ h).2;omega
    have t0:=HK78.out.cell (by simpa using hneM) (ko7.cell hsO s0);have t1:=HK78.out.cell (by simpa using hneM) (ko7.cell hsO s1);have hal8:=below_alloc w8 (.cells #[.int .i64 r,.slice ea em ec] 83);obtain⟨WK,csK,hWK,hbK,hcK⟩:=(HKR8.out.below hal8).built;have HBK9:=Lib.hid hbK;have HCK9:=Lib.hid hcK;have HWK9:=Lib.hid hWK;have HEL9:Hid ((w8.alloc (.cells #[.int .i64 r,.slice ea em ec] 83)).heap[w8.heap.size]?=some (.cells #[.int .i64 r,.slice ea em ec] 83 (0,0))):=heap_alloc_new w8 _;have HAL8:=Lib.hid hal8
    have HON8:=Lib.hid (HON.out.above9 ko08 (fun b hb=>by
     rcases List.mem_cons.1 hb with h|h
     ·exact .inl h
     ·exact .inr (hrlo b h).1))
    have HK2:=Lib.hid hk2;have HKLO:=Lib.hid hklo;clear hw8 ko08 hbv hrowV hval hsO hal8 hbK hcK hWK hdisj hst hk2 hown7 ko7 hbl7 s0 s1 hrlo hklo;go_wp2_with (at_builtin;refine wpList_app1E rfl (.tmp 32) (.tmp 34) 27 rfl 83 (.agg #[.int .i64 0,.slice none 0 0]) 2 32 Tryz.underlying27 info_Atom (by decide) (by decide) (by rfl) (.slice ka L.length kc) L.length csK rfl HBK9.out w8.heap.size [.int .i64 r,.slice ea em ec] rfl (by simp[Value.oneCell']) rfl HEL9.out (by omega) ?_)
    intro g2 cap2 w10 hown10 ko10 hbl10;have hlenK:(L++[e]).length=L.length+1:=by simp
    have HKR10:Hid (RowA W.heap.size w w10 (.slice (some ⟨g2,0,none⟩) (L.length+1) cap2) (L++[e])):=by
     refine RowA.ofBuilt HWK9.out (cs:=csK++[.int .i64 r,.slice ea em ec]) (by rw[hlenK];exact hown10) ?_;have:=Cs2.snoc HCK9.out HBK9.out.len (e:=e) (a:=ea) (m:=em) (c:=ec) (by rw[HR.out];exact HDI.out) HINT.out
     rwa [HR.out] at this
    have HBK10:=Lib.hid ((HBK8.out.below HAL8.out).kept ko10 (fun b hb=>(hbl10 b hb).imp id (fun h=>by simp;omega)));have hMk:M∉blk (.slice ka L.length kc):=fun h=>by have:=(HKLO.out _ h).1;omega
    have HM10:Hid (w10.heap[M]?=some (.map es2 clock1)):=(ko10.block M (Nat.lt_of_lt_of_le (Array.getElem?_eq_some_iff.1 HM8.out).1 HAL8.out.size) hMk).trans (zbk9 HAL8.out HM8.out);have HON10:=Lib.hid ((HON8.out.above9 (OnlyAt.ofBelow [] HAL8.out) (by simp)).above9 ko10 (fun b hb=>.inr (HKLO.out b hb).1));clear hown10 ko10 hbl10 hMk;go_wp2_with fail
    exact⟨⟨i+1,by omega,by simp,_,_,_,es2,clock1,rfl,HM10,HK2,by rw[HRT.out];exact HBK10,by rw[HRT.out];exact HKR10,HON10⟩,by simp[intOf];omega⟩
  ·obtain rfl:i=n:=by omega
   have hT:d.2.take i=d.2:=List.take_of_length_le (by rw[HL.out];exact Nat.le_refl _);rw[hT] at HKR;have hnM:∀x,x≠M→x∉[M]:=fun x h hx=>h (by simpa using hx)
   have hMV:=HMV.out;have q1:=HON.out.cell (hnM _ (by omega)) Q1.out;have k0:=HON.out.cell (hnM _ (by omega)) K0.out;have k1:=HON.out.cell (hnM _ (by omega)) K1.out;have f0:=HON.out.frozen (by have:=HSZ.out;omega) (hnM _ (by omega)) F0.out;have f1:=HON.out.frozen (by have:=HSZ.out;omega) (hnM _ (by omega)) F1.out;have HCL:=Lib.hid (HNQ.out wO _ HBO.out (HKR.out.rd HBO.out));have HOS:=HON.out.size;rw[hT];go_wp2_with fail
   refine HCL.out.mono ?_;rintro e2 w2 ⟨r,bs,rfl,hr,hfr,hbb⟩;replace f0:=frok hbb k0 f0;replace f1:=frok hbb k1 f1;replace k0:=cellk hbb k0;replace k1:=cellk hbb k1;have HR1:=Lib.hid hr;have HF1:=Lib.hid hfr;have HB1:=Lib.hid (bnext HBO.out hbb);have hszO:=HSZ.out;obtain⟨ra,rn,rc,ra',rn',rc',rfl,_⟩:=hr;clear hbb hfr q1;go_wp2_with fail
   have hk:OnlyAt [w.heap.size+1] w2 ((w2.setCell ⟨w.heap.size+1,0,none⟩ (.slice ra rn rc)).setCell ⟨w.heap.size+1,1,none⟩ (.slice ra' rn' rc')):=(OnlyAt.setCell w2 _ _ _).same (OnlyAt.setCell _ _ _ _);exact bodyPost_ret (v:=.agg #[.slice ra rn rc,.slice ra' rn' rc']) (by simp[results,Tryz.results87,go_sem,k0,k1]) rfl ⟨_,bs,rfl,HR1.out.onlyAt hk (fun b hb hm=>by have:=(HF1.out.2 b hb).1;simp at hm;omega),⟨HF1.out.1,fun b hb=>⟨by have:=(HF1.out.2 b hb).1;omega,Nat.lt_of_lt_of_le (HF1.out.2 b hb).2 hk.size⟩⟩,OnlyAt.below HB1.out hk (fun x hx=>by simp at hx;omega)⟩
end Go.Proofs.YtpedpbbiamhgdaaGreatDoor
