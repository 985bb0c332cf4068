import Derived.WalkKit
import Derived.Laws.BytesArg
import Derived.Laws.OwnMore
import Derived.Lib.Hide
import Derived.RowKit3
import Derived.Deep.RegionHeld3
import Derived.ArgAppend
import Derived.OwnWalk
import Derived.Deep.AppendLies
import Derived.Laws.AppendOwnNone
import Derived.Laws.CopyOwn
namespace Go.Proofs.YtpedpbbiamhgdaaGreatDoor
open Go.RowKit
set_option linter.unusedVariables false
def Built (k:IntKind) (E:TypeId) (w0 w:World) (v:Value) (l:List Int):Prop:=
 w.ownsRow w0.heap.size E 1 v l.length (l.map (Value.int k))∧Below w0.heap.size w0 w
theorem Built.below {k:IntKind} {E:TypeId} {w0 w:World} {v:Value} {l:List Int} (h:Built k E w0 w v l):Below w0.heap.size w0 w:=h.2
theorem Built.drew {k:IntKind} {E:TypeId} {w0 w:World} {v:Value} {l:List Int} (h:Built k E w0 w v l):Built k E w0 w.drew v l:=⟨h.1.drew,h.2.drew⟩
theorem Built.lit (k:IntKind) (E:TypeId) (w0 w:World) (l:List Int) (hl:l.length≤maxLen) (hb:Below w0.heap.size w0 w) :
  Built k E w0 (w.alloc (.cells (l.map (Value.int k)).toArray E)) (.slice (some ⟨w.heap.size,0,none⟩) l.length l.length) l:=by
 refine⟨?_,hb.alloc hb.size _⟩;have:=World.ownsRow_lit (e:=E) (size:=1) (base:=w0.heap.size) w (l.map (Value.int k)).toArray l.length hb.size hl (by simp);simpa using this
theorem Built.cell {k:IntKind} {E:TypeId} {w0 w:World} {g cap:Nat} {l:List Int} (h:Built k E w0 w (.slice (some ⟨g,0,none⟩) l.length cap) l) (j:Nat) (hj:j<l.length):w.cell? ⟨g,j,none⟩=some (.int k (l.getD j 0)):=by
 rw[World.ownsRow.cellAt h.1 j (by simpa using hj)];simp[List.getD,List.getElem?_eq_getElem hj]
theorem Built.frozen {k:IntKind} {E:TypeId} {w0 w:World} {g n cap:Nat} {l:List Int} (hn:n=l.length) (h:Built k E w0 w (.slice (some ⟨g,0,none⟩) n cap) l) (j:Nat):w.frozen? ⟨g,j,none⟩=false:=by
 subst hn;exact World.ownsRow.frozenAt h.1 j
theorem Built.store {k:IntKind} {E:TypeId} {w0 w:World} {g n cap:Nat} {l:List Int} (hn:n=l.length) (h:Built k E w0 w (.slice (some ⟨g,0,none⟩) n cap) l) (j:Nat) (y:Int):Built k E w0 (w.setCell ⟨g,j,none⟩ (.int k y)) (.slice (some ⟨g,0,none⟩) n cap) (l.set j y):=by
 subst hn;have hs:=World.ownsRow.stored h.1 j (.int k y);refine⟨?_,h.2.setCell (h.1.lt g rfl).1 _⟩;simpa[List.map_set] using hs.1
section
variable {P:Program}
theorem wpList_make_built {w w0:World} {ops:Array Oper} {rest:List Oper} {o:Oper} {a:Act} {Q:Exit→Act→World→Prop} (hg:o.guard=none) (lo co:Operand) (t:TypeId) (hop:o.op=Op.makeSlice t lo co)
  (k:IntKind) (E:TypeId) (z:Int) (bytes:Nat) (ht:P.underlying t=some (.slice E)) (hinfo:(P.info? E).map (fun i=>(i.zero,i.size,i.bytes))=some (some (.int k z),1,bytes)) (h8:bytes≤8)
  (hbel:Below w0.heap.size w0 w) (kl kc:IntKind) (n:Nat) (hl:a.eval lo=.int kl n) (hc:a.eval co=.int kc n) (hn:n≤17592186044416)
  (h:∀w',Built k E w0 w' (.slice (some ⟨w.heap.size,0,none⟩) n n) (List.replicate n z)→wpList P ops Q rest (a.put o.dst (.slice (some ⟨w.heap.size,0,none⟩) n n)) w'):wpList P ops Q (o::rest) a w:=by
 obtain⟨i,hi,hz0,hz1,hz2⟩:=info_parts hinfo
 have hb:i.bytes*n≤281474976710656:=by
  have:bytes*n≤8*17592186044416:=Nat.mul_le_mul h8 hn;rw[hz2];omega
 refine wpList_make_full w hg lo co t hop w0.heap.size E i (.int k z) 1 ht hi hz0 hz1 kl kc n n n hl hc rfl rfl hb (by unfold maxLen;omega) hbel.size ?_;intro w' ho hgr;refine h w' ⟨?_,hbel.grown hgr hbel.size (fun j hj=>by cases hj)⟩
 have e:(madeCells (Value.int k z).cells (n*1)).toList=(List.replicate n z).map (Value.int k):=by
  show (madeCells #[Value.int k z] (n*1)).toList=_;rw[toList_madeCells_one,Nat.mul_one,List.map_replicate]
 rw[←e,List.length_replicate];exact ho
theorem wpList_app_built {wr w0:World} {ops:Array Oper} {rest:List Oper} {o:Oper} {a:Act} {Q:Exit→Act→World→Prop} (hgd:o.guard=none) (s x:Operand) (t:TypeId)
  (ho:o.op=.call { callee:=.builtin .append,args:=#[s,x],argTypes:=#[t,t] })
  (k:IntKind) (E:TypeId) (z:Int) (bytes:Nat) (ht:P.underlying t=some (.slice E)) (hinfo:(P.info? E).map (fun i=>(i.zero,i.size,i.bytes))=some (some (.int k z),1,bytes)) (h8:bytes≤8)
  (v:Value) (l:List Int) (hs:a.eval s=v) (hown:Built k E w0 wr v l) (news:List Int) (m:Nat) (hm:news.length=m)
  (hx:a.eval x=.slice (some ⟨wr.heap.size,0,none⟩) m m) (hl:l.length+m≤17592186044416)
  (h:∀v' w',Built k E w0 w' v' (l++news)→wpList P ops Q rest (a.put o.dst v') w'):wpList P ops Q (o::rest) a (wr.alloc (.cells (news.map (Value.int k)).toArray E)):=by
 obtain⟨i,hi,hz0,hz1,hz2⟩:=info_parts hinfo;have h1:=hown.2.size
 have hlen:(l.length+m)*bytes≤140737488355328:=by
  have:(l.length+m)*bytes≤17592186044416*8:=Nat.mul_le_mul hl h8;omega
 refine wpList_append_own (wr.alloc (.cells (news.map (Value.int k)).toArray E)) hgd s x t ho w0.heap.size E i (.int k z) 1 bytes ht hi hz0 hz1 hz2 rfl (by decide) v l.length (l.map (Value.int k)) hs (hown.1.alloc _) ⟨wr.heap.size,0,none⟩ m m (news.map (Value.int k)) hx (by simp[hm]) ?_ (ints_oneCell k news) (by unfold maxLen;omega) hlen (by simp;omega) ?_
 ·intro j u hu;rw[Addr.add_lit,Nat.zero_add,World.cell?_alloc_at _ _ _ _ rfl];simpa using hu
 ·intro v' w' ho' hg _;refine h v' w' ⟨by simpa[hm] using ho',(hown.2.alloc h1 _).grown hg (by simp;omega) fun j hj=>(hown.1.lt j hj).1⟩
theorem wpList_app1 {wr w0:World} {ops:Array Oper} {rest:List Oper} {o:Oper} {a:Act} {Q:Exit→Act→World→Prop} (hgd:o.guard=none) (s x:Operand) (t:TypeId)
  (ho:o.op=.call { callee:=.builtin .append,args:=#[s,x],argTypes:=#[t,t] })
  (k:IntKind) (E:TypeId) (z:Int) (bytes:Nat) (ht:P.underlying t=some (.slice E)) (hinfo:(P.info? E).map (fun i=>(i.zero,i.size,i.bytes))=some (some (.int k z),1,bytes)) (h8:bytes≤8)
  (v:Value) (l:List Int) (hs:a.eval s=v) (hown:Built k E w0 wr v l) (y:Int)
  (hx:a.eval x=.slice (some ⟨wr.heap.size,0,none⟩) 1 1) (hl:l.length+1≤17592186044416)
  (h:∀v' w',Built k E w0 w' v' (l++[y])→wpList P ops Q rest (a.put o.dst v') w'):wpList P ops Q (o::rest) a (wr.alloc (.cells #[.int k y] E)):=
 wpList_app_built hgd s x t ho k E z bytes ht hinfo h8 v l hs hown [y] 1 rfl hx hl h
end
def inI (x:Int):Prop:=-9223372036854775808≤x∧x≤9223372036854775807
def Ints (w:World) (v:Value) (l:List Int):Prop:=
 (∀x∈l,inI x)∧((∃a cap,v=.slice a 0 cap∧cap≤maxLen∧l=[])∨
  ∃b off len cap,v=.slice (some ⟨b,off,none⟩) len cap∧l.length=len∧len≤cap∧cap≤maxLen∧b<w.heap.size∧∀j,j<len→w.cell? ⟨b,off+j,none⟩=some (.int .i64 (l.getD j 0)))
theorem Ints.below {w w':World} {v:Value} {l:List Int} (h:Ints w v l) (hb:Below w.heap.size w w'):Ints w' v l:=by
 refine⟨h.1,?_⟩;rcases h.2 with h|⟨b,off,len,cap,hv,hl,h1,h2,hlt,hc⟩
 ·exact .inl h
 ·exact .inr ⟨b,off,len,cap,hv,hl,h1,h2,Nat.lt_of_lt_of_le hlt hb.size,fun j hj=>by rw[hb.cell (p:=⟨b,off+j,none⟩) hlt];exact hc j hj⟩
theorem Ints.len_le {w:World} {v:Value} {l:List Int} (h:Ints w v l):l.length≤maxLen:=by
 rcases h.2 with⟨_,_,_,_,rfl⟩|⟨b,off,len,cap,hv,hl,h1,h2,hlt,hc⟩
 ·exact Nat.zero_le _
 ·omega
theorem Ints.form {w:World} {v:Value} {l:List Int} (h:Ints w v l):∃a cap,v=.slice a l.length cap:=by
 rcases h.2 with⟨a,cap,rfl,_,rfl⟩|⟨b,off,len,cap,rfl,rfl,_⟩
 ·exact⟨a,cap,rfl⟩
 ·exact⟨_,cap,rfl⟩
theorem Ints.shape {w:World} {v:Value} {l:List Int} (h:Ints w v l):∃a n cap,v=.slice a n cap:=by
 obtain⟨a,cap,h⟩:=h.form;exact⟨a,_,cap,h⟩
theorem Ints.cases {w:World} {v:Value} {l:List Int} (h:Ints w v l):∃a n cap,v=.slice a n cap∧l.length=n∧n≤cap∧cap≤maxLen∧(0<n→∃b off,a=some ⟨b,off,none⟩∧b<w.heap.size∧∀j,j<n→w.cell? ⟨b,off+j,none⟩=some (.int .i64 (l.getD j 0))):=by
 rcases h.2 with⟨a,cap,rfl,hm,rfl⟩|⟨b,off,len,cap,rfl,rfl,h1,h2,h3,h4⟩
 ·exact⟨a,0,cap,rfl,rfl,Nat.zero_le _,hm,fun h=>by omega⟩
 ·exact⟨_,_,cap,rfl,rfl,h1,h2,fun _=>⟨b,off,rfl,h3,h4⟩⟩
theorem Ints.nil (w:World):Ints w (.slice none 0 0) []:=⟨fun x h=>by simp at h,.inl ⟨none,0,rfl,Nat.zero_le _,rfl⟩⟩
theorem inI_getD {l:List Int} (h:∀x∈l,inI x) (j:Nat):inI (l.getD j 0):=by
 rw[List.getD_eq_getElem?_getD];rcases Nat.lt_or_ge j l.length with hj|hj
 ·rw[List.getElem?_eq_getElem hj];exact h _ (List.getElem_mem hj)
 ·rw[List.getElem?_eq_none hj];exact⟨by decide,by decide⟩
theorem Ints.ofBuilt {E:TypeId} {w0 w:World} {v:Value} {l:List Int} (h:Built .i64 E w0 w v l) (hi:∀x∈l,inI x):Ints w v l:=by
 refine⟨hi,?_⟩;rcases h.1.2 with⟨rfl,hn⟩|⟨g,cap,cur,rfl,hb,hg,hlc,hcm,hsz,htk⟩
 ·exact .inl ⟨none,0,rfl,Nat.zero_le _,List.length_eq_zero_iff.1 hn⟩
 ·refine .inr ⟨g,0,_,cap,rfl,rfl,hlc,hcm,?_,fun j hj=>?_⟩
  ·rcases Nat.lt_or_ge g w.heap.size with h3|h3
   ·exact h3
   ·rw[Array.getElem?_eq_none h3] at hg;cases hg
  ·have:=World.ownsRow.cellAt h.1 j (by simpa using hj);rw[Nat.zero_add,this];simp[List.getD,List.getElem?_eq_getElem hj]
theorem ret_n {a b:Int} (h:a=b):Ending.returned (.int .i64 a)=.returned (.int .i64 b):=by rw[h]
theorem ret_b {a b:Bool} (h:a=b):Ending.returned (.bool a)=.returned (.bool b):=by rw[h]
def NewV (base:Nat):Value→Prop|.slice (some a) _ _=>base≤a.block|_=>True
def GaveInt (w:World) (n:Int) (e:Ending) (w':World):Prop:=e=.returned (.int .i64 n)∧Below w.heap.size w w'
def GaveBool (w:World) (b:Bool) (e:Ending) (w':World):Prop:=e=.returned (.bool b)∧Below w.heap.size w w'
def GaveV (v:Value) (w:World) (e:Ending) (w':World):Prop:=e=.returned v∧Below w.heap.size w w'
theorem below_alloc (w:World) (o:Obj):Below w.heap.size w (w.alloc o):=(Below.refl _ _).alloc (Nat.le_refl _) _
theorem cellk {w w':World} {b o:Nat} {v:Value} (hb:Below w.heap.size w w') (h:w.cell? ⟨b,o,none⟩=some v):w'.cell? ⟨b,o,none⟩=some v:=by
 rw[hb.cell (p:=⟨b,o,none⟩) (World.block_lt_of_cell? w _ h)];exact h
theorem frok {w w':World} {b o:Nat} {v:Value} (hb:Below w.heap.size w w') (hc:w.cell? ⟨b,o,none⟩=some v) (hf:w.frozen? ⟨b,o,none⟩=false):w'.frozen? ⟨b,o,none⟩=false:=by
 rw[hb.frozen (p:=⟨b,o,none⟩) (World.block_lt_of_cell? w _ hc)];exact hf
theorem bnext {w0 w w':World} (h:Below w0.heap.size w0 w) (hb:Below w.heap.size w w'):Below w0.heap.size w0 w':=h.trans (hb.mono h.size)
structure OnlyAt (bs:List Nat) (w w':World):Prop where
 os:w'.os=w.os
 tape:w'.tape=w.tape
 output:w'.output=w.output
 size:w.heap.size≤w'.heap.size
 block:∀k,k<w.heap.size→k∉bs→w'.heap[k]?=w.heap[k]?
theorem OnlyAt.refl (bs:List Nat) (w:World):OnlyAt bs w w:=⟨rfl,rfl,rfl,Nat.le_refl _,fun _ _ _=>rfl⟩
theorem OnlyAt.ofBelow {w w':World} (bs:List Nat) (h:Below w.heap.size w w'):OnlyAt bs w w':=⟨h.os,h.tape,h.output,h.size,fun k hk _=>h.block k hk⟩
theorem OnlyAt.trans {bs bs':List Nat} {a b c:World} (h:OnlyAt bs a b) (k:OnlyAt bs' b c):OnlyAt (bs++bs') a c:=
 ⟨k.os.trans h.os,k.tape.trans h.tape,k.output.trans h.output,Nat.le_trans h.size k.size,fun i hi hn=>by
  rw[List.mem_append] at hn;exact (k.block i (Nat.lt_of_lt_of_le hi h.size) (fun e=>hn (.inr e))).trans (h.block i hi (fun e=>hn (.inl e)))⟩
theorem OnlyAt.same {bs:List Nat} {a b c:World} (h:OnlyAt bs a b) (k:OnlyAt bs b c):OnlyAt bs a c:=
 ⟨k.os.trans h.os,k.tape.trans h.tape,k.output.trans h.output,Nat.le_trans h.size k.size,fun i hi hn=>
  (k.block i (Nat.lt_of_lt_of_le hi h.size) hn).trans (h.block i hi hn)⟩
theorem OnlyAt.wider {bs bs':List Nat} {a b:World} (h:OnlyAt bs a b) (hs:∀x∈bs,x∈bs'):OnlyAt bs' a b:=
 ⟨h.os,h.tape,h.output,h.size,fun i hi hn=>h.block i hi (fun e=>hn (hs i e))⟩
theorem OnlyAt.cell {bs:List Nat} {w w':World} (h:OnlyAt bs w w') {b o:Nat} {v:Value} (hn:b∉bs) (hc:w.cell? ⟨b,o,none⟩=some v):w'.cell? ⟨b,o,none⟩=some v:=by
 rw[World.cell?_of_block (w:=w) (h.block b (World.block_lt_of_cell? w _ hc) hn)];exact hc
theorem OnlyAt.setCell (w:World) (b o:Nat) (u:Value):OnlyAt [b] w (w.setCell ⟨b,o,none⟩ u):=
 ⟨rfl,rfl,rfl,by simp[World.setCell],fun k _ hn=>Below.heap_setCell _ _ _ _ (fun e=>hn (by simp[e]))⟩
theorem OnlyAt.below {bs:List Nat} {w0 w w':World} (h:Below w0.heap.size w0 w) (k:OnlyAt bs w w') (hb:∀x∈bs,w0.heap.size≤x):Below w0.heap.size w0 w':=
 h.trans ⟨k.os,k.tape,k.output,k.size,fun i hi=>k.block i (Nat.lt_of_lt_of_le hi h.size) (fun e=>by have:=hb i e;omega)⟩
def OInts (w:World) (v:Value) (l:List Int) (bs:List Nat):Prop:=
 Ints w v l∧((∃a c,v=.slice a 0 c∧bs=[])∨∃b off n c,v=.slice (some ⟨b,off,none⟩) n c∧0<n∧bs=[b]∧∀j,j<n→w.frozen? ⟨b,off+j,none⟩=false)
theorem OInts.below {w w':World} {v:Value} {l:List Int} {bs:List Nat} (h:OInts w v l bs) (hb:Below w.heap.size w w'):OInts w' v l bs:=by
 refine⟨h.1.below hb,?_⟩;rcases h.2 with h2|⟨b,off,n,c,rfl,hn,rfl,hf⟩
 ·exact .inl h2
 ·refine .inr ⟨b,off,n,c,rfl,hn,rfl,fun j hj=>?_⟩;rcases h.1.2 with⟨a,cap,e,_,rfl⟩|⟨b',off',len,cap,e,hl,h1,h2,hlt,hc⟩
  ·cases e;omega
  ·cases e;rw[hb.frozen (p:=⟨b,off+j,none⟩) hlt];exact hf j hj
theorem Ints.onlyAt {bs:List Nat} {w w':World} {v:Value} {l:List Int} (h:Ints w v l) (k:OnlyAt bs w w') (hn:∀b off n c,v=.slice (some ⟨b,off,none⟩) n c→0<n→b∉bs):Ints w' v l:=by
 refine⟨h.1,?_⟩;rcases h.2 with h|⟨b,off,len,cap,rfl,hl,h1,h2,hlt,hc⟩
 ·exact .inl h
 ·exact .inr ⟨b,off,len,cap,rfl,hl,h1,h2,Nat.lt_of_lt_of_le hlt k.size,fun j hj=>k.cell (hn _ _ _ _ rfl (by omega)) (hc j hj)⟩
theorem OInts.onlyAt {bs bs':List Nat} {w w':World} {v:Value} {l:List Int} (h:OInts w v l bs) (k:OnlyAt bs' w w') (hn:∀b∈bs,b∉bs'):OInts w' v l bs:=by
 refine⟨h.1.onlyAt k ?_,?_⟩
 ·rintro b off n c rfl hpos;rcases h.2 with⟨a,c',e,rfl⟩|⟨b',off',n',c',e,_,rfl,_⟩
  ·cases e;omega
  ·cases e;exact hn b (by simp)
 ·rcases h.2 with h2|⟨b,off,n,c,rfl,hpos,rfl,hf⟩
  ·exact .inl h2
  ·refine .inr ⟨b,off,n,c,rfl,hpos,rfl,fun j hj=>?_⟩;rcases h.1.2 with⟨a,cap,e,_,rfl⟩|⟨b',off',len,cap,e,hl,h1,h2,hlt,hc⟩
   ·cases e;omega
   ·cases e;rw[World.frozen?_of_block (w:=w) (k.block b hlt (hn b (by simp)))];exact hf j hj
theorem OInts.ofBuilt {E:TypeId} {w0 w:World} {v:Value} {l:List Int} (h:Built .i64 E w0 w v l) (hi:∀x∈l,inI x):∃bs,OInts w v l bs∧bs.Nodup∧∀b∈bs,w0.heap.size≤b∧b<w.heap.size:=by
 have hr:=Ints.ofBuilt h hi;rcases h.1.2 with⟨rfl,hn⟩|⟨g,cap,cur,rfl,hb,hg,hlc,hcm,hsz,htk⟩
 ·exact⟨[],⟨hr,.inl ⟨none,0,rfl,rfl⟩⟩,by simp,fun b hb=>by simp at hb⟩
 ·by_cases h0:l.length=0
  ·exact⟨[],⟨hr,.inl ⟨_,cap,by rw[h0],rfl⟩⟩,by simp,fun b hb=>by simp at hb⟩
  ·have hlt:g<w.heap.size:=by
    rcases Nat.lt_or_ge g w.heap.size with h3|h3
    ·exact h3
    ·rw[Array.getElem?_eq_none h3] at hg;cases hg
   exact⟨[g],⟨hr,.inr ⟨g,0,_,cap,rfl,by omega,rfl,fun j hj=>Built.frozen rfl h (0+j)⟩⟩,by simp,fun b hb'=>by simp at hb';subst hb';exact⟨hb,hlt⟩⟩
def Fresh (w w':World) (bs:List Nat):Prop:=bs.Nodup∧∀b∈bs,w.heap.size≤b∧b<w'.heap.size
theorem Fresh.lo {w w':World} {bs:List Nat} (h:Fresh w w' bs):∀b∈bs,w.heap.size≤b:=fun b hb=>(h.2 b hb).1
theorem Fresh.wide {w0 w w' w1:World} {bs:List Nat} (h:Fresh w w' bs) (h0:w0.heap.size≤w.heap.size) (h1:w'.heap.size≤w1.heap.size):Fresh w0 w1 bs:=
 ⟨h.1,fun b hb=>⟨Nat.le_trans h0 (h.2 b hb).1,Nat.lt_of_lt_of_le (h.2 b hb).2 h1⟩⟩
def GaveInts (w:World) (l:List Int) (e:Ending) (w':World):Prop:=∃v bs,e=.returned v∧OInts w' v l bs∧Fresh w w' bs∧Below w.heap.size w w'
def GaveO (R:World→Value→List Nat→Prop) (w:World) (e:Ending) (w':World):Prop:=∃v bs,e=.returned v∧R w' v bs∧Fresh w w' bs∧Below w.heap.size w w'
theorem Built.grow {k:IntKind} {E:TypeId} {w0 w w':World} {v:Value} {l:List Int} (h:Built k E w0 w v l) (hb:Below w.heap.size w w'):Built k E w0 w' v l:=by
 refine⟨⟨h.1.1,?_⟩,bnext h.2 hb⟩;rcases h.1.2 with h1|⟨g,cap,cur,rfl,h1,hg,h2⟩
 ·exact .inl h1
 ·have hlt:g<w.heap.size:=by
   rcases Nat.lt_or_ge g w.heap.size with h3|h3
   ·exact h3
   ·rw[Array.getElem?_eq_none h3] at hg;cases hg
  exact .inr ⟨g,cap,cur,rfl,h1,by rw[hb.block g hlt];exact hg,h2⟩
theorem Built.owns {E:TypeId} {w0 w:World} {v:Value} {l:List Int} (h:Built .i64 E w0 w v l) (hi:∀x∈l,inI x):GaveInts w0 l (.returned v) w:=by
 obtain⟨bs,ho,hn,hb⟩:=OInts.ofBuilt h hi;exact⟨v,bs,rfl,ho,⟨hn,hb⟩,h.2⟩
def BuiltC (E:TypeId) (size:Nat) (w0 w:World) (v:Value) (n:Nat) (cs:List Value):Prop:=
 w.ownsRow w0.heap.size E size v n cs∧Below w0.heap.size w0 w
theorem BuiltC.grow {E:TypeId} {size:Nat} {w0 w w':World} {v:Value} {n:Nat} {cs:List Value} (h:BuiltC E size w0 w v n cs) (hb:Below w.heap.size w w'):BuiltC E size w0 w' v n cs:=by
 refine⟨⟨h.1.1,?_⟩,bnext h.2 hb⟩;rcases h.1.2 with h1|⟨g,cap,cur,rfl,h1,hg,h2⟩
 ·exact .inl h1
 ·have hlt:g<w.heap.size:=by
   rcases Nat.lt_or_ge g w.heap.size with h3|h3
   ·exact h3
   ·rw[Array.getElem?_eq_none h3] at hg;cases hg
  exact .inr ⟨g,cap,cur,rfl,h1,by rw[hb.block g hlt];exact hg,h2⟩
theorem BuiltC.lit (E:TypeId) (size:Nat) (w0 w:World) (n:Nat) (cs:List Value) (hm:n≤maxLen) (hs:cs.length=n*size) (hb:Below w0.heap.size w0 w) :
  BuiltC E size w0 (w.alloc (.cells cs.toArray E)) (.slice (some ⟨w.heap.size,0,none⟩) n n) n cs:=by
 refine⟨?_,hb.alloc hb.size _⟩;have:=World.ownsRow_lit (e:=E) (size:=size) (base:=w0.heap.size) w cs.toArray n hb.size hm (by simpa using hs);simpa using this
theorem BuiltC.nil (E:TypeId) (size:Nat) (w0 w:World) (hb:Below w0.heap.size w0 w):BuiltC E size w0 w (.slice none 0 0) 0 []:=⟨World.ownsRow_nil _ _ _ _,hb⟩
theorem BuiltC.cell {E:TypeId} {size:Nat} {w0 w:World} {g n cap:Nat} {cs:List Value} (h:BuiltC E size w0 w (.slice (some ⟨g,0,none⟩) n cap) n cs) (j:Nat) (hj:j<n*size):w.cell? ⟨g,j,none⟩=cs[j]?:=World.ownsRow.cellAt h.1 j hj
theorem BuiltC.frozen {E:TypeId} {size:Nat} {w0 w:World} {g n cap:Nat} {cs:List Value} (h:BuiltC E size w0 w (.slice (some ⟨g,0,none⟩) n cap) n cs) (j:Nat):w.frozen? ⟨g,j,none⟩=false:=World.ownsRow.frozenAt h.1 j
theorem BuiltC.store {E:TypeId} {size:Nat} {w0 w:World} {g n cap:Nat} {cs:List Value} (h:BuiltC E size w0 w (.slice (some ⟨g,0,none⟩) n cap) n cs) (j:Nat) (u:Value):BuiltC E size w0 (w.setCell ⟨g,j,none⟩ u) (.slice (some ⟨g,0,none⟩) n cap) n (cs.set j u):=
 ⟨(World.ownsRow.stored h.1 j u).1,h.2.setCell (h.1.lt g rfl).1 _⟩
theorem BuiltC.lt {E:TypeId} {size:Nat} {w0 w:World} {b off n cap n':Nat} {cs:List Value} (h:BuiltC E size w0 w (.slice (some ⟨b,off,none⟩) n cap) n' cs):w0.heap.size≤b∧b<w.heap.size:=h.1.lt b rfl
theorem BuiltC.len {E:TypeId} {size:Nat} {w0 w:World} {v:Value} {n:Nat} {cs:List Value} (h:BuiltC E size w0 w v n cs):cs.length=n*size:=h.1.1
theorem BuiltC.form {E:TypeId} {size:Nat} {w0 w:World} {v:Value} {n:Nat} {cs:List Value} (h:BuiltC E size w0 w v n cs):(v=.slice none 0 0∧n=0)∨∃g cap,v=.slice (some ⟨g,0,none⟩) n cap∧n≤cap∧cap≤maxLen:=by
 rcases h.1.2 with h1|⟨g,cap,cur,rfl,_,_,h2,h3,_⟩
 ·exact .inl h1
 ·exact .inr ⟨g,cap,rfl,h2,h3⟩
section
variable {P:Program}
theorem wpList_make_C {w w0:World} {ops:Array Oper} {rest:List Oper} {o:Oper} {a:Act} {Q:Exit→Act→World→Prop} (hg:o.guard=none) (lo co:Operand) (t:TypeId) (hop:o.op=Op.makeSlice t lo co)
  (E:TypeId) (z:Value) (size bytes:Nat) (ht:P.underlying t=some (.slice E)) (hinfo:(P.info? E).map (fun i=>(i.zero,i.size,i.bytes))=some (some z,size,bytes)) (h8:bytes≤128) (hsz:0<size)
  (hbel:Below w0.heap.size w0 w) (kl kc:IntKind) (n:Nat) (hl:a.eval lo=.int kl n) (hc:a.eval co=.int kc n) (hn:n≤1099511627776)
  (h:∀w',BuiltC E size w0 w' (.slice (some ⟨w.heap.size,0,none⟩) n n) n (madeCells z.cells (n*size)).toList→wpList P ops Q rest (a.put o.dst (.slice (some ⟨w.heap.size,0,none⟩) n n)) w'):wpList P ops Q (o::rest) a w:=by
 obtain⟨i,hi,hz0,hz1,hz2⟩:=info_parts hinfo
 have hb:i.bytes*n≤281474976710656:=by
  have:bytes*n≤128*1099511627776:=Nat.mul_le_mul h8 hn;rw[hz2];omega
 refine wpList_make_full w hg lo co t hop w0.heap.size E i z size ht hi hz0 hz1 kl kc n n n hl hc rfl rfl hb (by unfold maxLen;omega) hbel.size ?_;intro w' ho hgr;exact h w' ⟨ho,hbel.grown hgr hbel.size (fun j hj=>by cases hj)⟩
theorem wpList_app1C {wr w0:World} {ops:Array Oper} {rest:List Oper} {o:Oper} {a:Act} {Q:Exit→Act→World→Prop} (hgd:o.guard=none) (s x:Operand) (t:TypeId)
  (ho:o.op=.call { callee:=.builtin .append,args:=#[s,x],argTypes:=#[t,t] })
  (E:TypeId) (z:Value) (size bytes:Nat) (ht:P.underlying t=some (.slice E)) (hinfo:(P.info? E).map (fun i=>(i.zero,i.size,i.bytes))=some (some z,size,bytes)) (h8:bytes≤128) (hsz:0<size) (hzs:z.cells.size=size)
  (v:Value) (n:Nat) (cs:List Value) (hs:a.eval s=v) (hown:BuiltC E size w0 wr v n cs) (new:List Value) (hnew:new.length=size) (h1:∀u∈new,u.oneCell'=true)
  (hx:a.eval x=.slice (some ⟨wr.heap.size,0,none⟩) 1 1) (hn:n+1≤1099511627776)
  (h:∀v' w',BuiltC E size w0 w' v' (n+1) (cs++new)→wpList P ops Q rest (a.put o.dst v') w'):wpList P ops Q (o::rest) a (wr.alloc (.cells new.toArray E)):=by
 obtain⟨i,hi,hz0,hz1,hz2⟩:=info_parts hinfo;have hsw:=hown.2.size
 have hlen:(n+1)*bytes≤140737488355328:=by
  have:(n+1)*bytes≤1099511627776*128:=Nat.mul_le_mul hn h8;omega
 refine wpList_append_own (wr.alloc (.cells new.toArray E)) hgd s x t ho w0.heap.size E i z size bytes ht hi hz0 hz1 hz2 hzs hsz v n cs hs (hown.1.alloc _) ⟨wr.heap.size,0,none⟩ 1 1 new hx (by simpa using hnew) ?_ h1 (by unfold maxLen;omega) hlen (by simp;omega) ?_
 ·intro j u hu;rw[Addr.add_lit,Nat.zero_add,World.cell?_alloc_at _ _ _ _ rfl];simpa using hu
 ·intro v' w' ho' hg _;exact h v' w' ⟨ho',(hown.2.alloc hsw _).grown hg (by simp;omega) fun j hj=>(hown.1.lt j hj).1⟩
end
theorem Built.ofC {E:TypeId} {w0 w:World} {v:Value} {n:Nat} {l:List Int} {y:Int} (h:BuiltC E 1 w0 w v n (l.map (Value.int .i64)++[.int .i64 y])):Built .i64 E w0 w v (l++[y]):=by
 have hl:=h.len;have:n=(l++[y]).length:=by simpa using hl.symm
 subst this;unfold Built;rw[List.map_append];exact h
def blk:Value→List Nat|.slice (some a) _ _=>[a.block]|_=>[]
theorem onlyAt_grown {w w':World} {r:Option Nat} (bs:List Nat) (h:w.grownBy w' r) (hr:∀k,r=some k→k∈bs):OnlyAt bs w w':=
 ⟨h.os,h.tape,h.output,h.size,fun k hk hn=>h.block k hk (fun e=>hn (hr k e.symm))⟩
section
variable {P:Program}
theorem wpList_app1D {wr w0:World} {ops:Array Oper} {rest:List Oper} {o:Oper} {a:Act} {Q:Exit→Act→World→Prop} (hgd:o.guard=none) (s x:Operand) (t:TypeId)
  (ho:o.op=.call { callee:=.builtin .append,args:=#[s,x],argTypes:=#[t,t] })
  (E:TypeId) (z:Value) (size bytes:Nat) (ht:P.underlying t=some (.slice E)) (hinfo:(P.info? E).map (fun i=>(i.zero,i.size,i.bytes))=some (some z,size,bytes)) (h8:bytes≤128) (hsz:0<size) (hzs:z.cells.size=size)
  (v:Value) (n:Nat) (cs:List Value) (hs:a.eval s=v) (hown:BuiltC E size w0 wr v n cs) (new:List Value) (hnew:new.length=size) (h1:∀u∈new,u.oneCell'=true)
  (hx:a.eval x=.slice (some ⟨wr.heap.size,0,none⟩) 1 1) (hn:n+1≤1099511627776)
  (h:∀v' w',BuiltC E size w0 w' v' (n+1) (cs++new)→OnlyAt (blk v) wr w'→(∀b∈blk v',b∈blk v∨wr.heap.size≤b)→wpList P ops Q rest (a.put o.dst v') w'):wpList P ops Q (o::rest) a (wr.alloc (.cells new.toArray E)):=by
 obtain⟨i,hi,hz0,hz1,hz2⟩:=info_parts hinfo;have hsw:=hown.2.size
 have hlen:(n+1)*bytes≤140737488355328:=by
  have:(n+1)*bytes≤1099511627776*128:=Nat.mul_le_mul hn h8;omega
 have hcell:∀j u,new[j]?=some u→(wr.alloc (.cells new.toArray E)).cell? ((⟨wr.heap.size,0,none⟩:Addr).add j)=some u:=by
  intro j u hu;rw[Addr.add_lit,Nat.zero_add,World.cell?_alloc_at _ _ _ _ rfl];simpa using hu
 have hal:OnlyAt (blk v) wr (wr.alloc (.cells new.toArray E)):=OnlyAt.ofBelow _ ((Below.refl _ _).alloc (Nat.le_refl _) _);have hown':=hown.1.alloc (.cells new.toArray E);rcases hown.form with⟨rfl,rfl⟩|⟨g,cap,rfl,hc1,hc2⟩
 ·refine wpList_append_grows (wr.alloc (.cells new.toArray E)) hgd s x t ho E i z size bytes ht hi hz0 hz1 hz2 hzs hsz none 0 0 cs hs (fun _=>⟨rfl,rfl⟩) hown.len (fun b hb=>by cases hb) ⟨wr.heap.size,0,none⟩ 1 1 new hx (by simpa using hnew) hcell h1 (by omega) (by unfold maxLen;omega) hlen ?_;intro v' w' hr hg;have hb:Below w0.heap.size w0 w':=(hown.2.alloc hsw _).grown hg (by simp;omega) (fun j hj=>by cases hj);refine h v' w' ⟨⟨hr.1,?_⟩,hb⟩ (hal.same (onlyAt_grown _ hg (fun k hk=>by cases hk))) ?_
  ·rcases hr.2 with h2|⟨g,cap,cur,hv,hlo,h3⟩
   ·exact .inl h2
   ·exact .inr ⟨g,cap,cur,hv,by simp at hlo;omega,h3⟩
  ·intro b hb';right;rcases hr.2 with⟨rfl,_⟩|⟨g,cap,cur,rfl,hlo,h3⟩
   ·simp[blk] at hb'
   ·simp[blk] at hb' hlo;omega
 ·by_cases hfit:n+1≤cap
  ·refine wpList_append_fits (wr.alloc (.cells new.toArray E)) hgd s x t ho w0.heap.size E i size ht hi hz1 g n cap cs hs hown' ⟨wr.heap.size,0,none⟩ 1 1 new hx (by simpa using hnew) hcell h1 hfit ?_;intro w' hr hg;refine h _ w' ⟨hr,(hown.2.alloc hsw _).grown hg (by simp;omega) (fun j hj=>by cases hj;exact hown.lt.1)⟩ (hal.same (onlyAt_grown _ hg (fun k hk=>by cases hk;simp[blk]))) (fun b hb=>.inl hb)
  ·refine wpList_append_grows (wr.alloc (.cells new.toArray E)) hgd s x t ho E i z size bytes ht hi hz0 hz1 hz2 hzs hsz (some ⟨g,0,none⟩) n cap cs hs (fun e=>by cases e) hown.len (fun b hb j u hu=>?_) ⟨wr.heap.size,0,none⟩ 1 1 new hx (by simpa using hnew) hcell h1 (by omega) (by unfold maxLen;omega) hlen ?_
   ·cases hb;rw[Addr.add_lit,Nat.zero_add];have hj:j<cs.length:=(List.getElem?_eq_some_iff.1 hu).1;rw[←hu];exact World.ownsRow.cellAt hown' j (by rw[←hown.len];exact hj)
   ·intro v' w' hr hg;have hb:Below w0.heap.size w0 w':=(hown.2.alloc hsw _).grown hg (by simp;omega) (fun j hj=>by cases hj);refine h v' w' ⟨⟨hr.1,?_⟩,hb⟩ (hal.same (onlyAt_grown _ hg (fun k hk=>by cases hk))) ?_
    ·rcases hr.2 with h2|⟨g,cap,cur,hv,hlo,h3⟩
     ·exact .inl h2
     ·exact .inr ⟨g,cap,cur,hv,by simp at hlo;omega,h3⟩
    ·intro b hb';right;rcases hr.2 with⟨rfl,_⟩|⟨g,cap,cur,rfl,hlo,h3⟩
     ·simp[blk] at hb'
     ·simp[blk] at hb' hlo;omega
end
def RdSl {α:Type} (k:Nat) (C:World→List Value→α→Prop) (w:World) (v:Value) (l:List α):Prop:=
 ∃a n cap,v=.slice a n cap∧l.length=n∧n≤cap∧cap≤maxLen∧(0<n→∃b off,a=some ⟨b,off,none⟩∧b<w.heap.size∧∀j (hj:j<l.length),∃cs,cs.length=k∧(∀i,i<k→w.cell? ⟨b,off+(j*k+i),none⟩=cs[i]?)∧C w cs l[j])
theorem RdSl.below {α:Type} {k:Nat} {C:World→List Value→α→Prop} {w w':World} {v:Value} {l:List α} (h:RdSl k C w v l) (hC:∀cs d,C w cs d→C w' cs d) (hb:Below w.heap.size w w'):RdSl k C w' v l:=by
 obtain⟨a,n,cap,rfl,hl,hn,hm,hc⟩:=h;refine⟨a,n,cap,rfl,hl,hn,hm,fun h0=>?_⟩;obtain⟨b,off,rfl,hlt,hc⟩:=hc h0;refine⟨b,off,rfl,Nat.lt_of_lt_of_le hlt hb.size,fun j hj=>?_⟩;obtain⟨cs,h1,h2,h3⟩:=hc j hj;exact⟨cs,h1,fun i hi=>by rw[hb.cell (p:=⟨b,off+(j*k+i),none⟩) hlt];exact h2 i hi,hC _ _ h3⟩
def RowO {α:Type} (k:Nat) (CO:World→List Value→α→List Nat→Prop) (w:World) (b off:Nat) (l:List α) (bss:List (List Nat)):Prop:=
 bss.length=l.length∧b<w.heap.size∧(∀t,t<l.length*k→w.frozen? ⟨b,off+t,none⟩=false)∧
  ∀j d,l[j]?=some d→∃cs,cs.length=k∧(∀i,i<k→w.cell? ⟨b,off+(j*k+i),none⟩=cs[i]?)∧CO w cs d (bss.getD j [])
section
variable {α:Type} {k:Nat} {CO:World→List Value→α→List Nat→Prop}
theorem RowO.keep {w w':World} {b off:Nat} {l:List α} {bss:List (List Nat)} (h:RowO k CO w b off l bss) (hs:w.heap.size≤w'.heap.size)
  (hb:w'.heap[b]?=w.heap[b]?) (hC:∀j cs d,l[j]?=some d→CO w cs d (bss.getD j [])→CO w' cs d (bss.getD j [])):RowO k CO w' b off l bss:=by
 obtain⟨h1,h2,h3,h4⟩:=h;refine⟨h1,Nat.lt_of_lt_of_le h2 hs,fun t ht=>by rw[World.frozen?_of_block (w:=w) hb];exact h3 t ht,fun j d hd=>?_⟩;obtain⟨cs,c1,c2,c3⟩:=h4 j d hd;exact⟨cs,c1,fun i hi=>by rw[World.cell?_of_block (w:=w) hb];exact c2 i hi,hC j cs d hd c3⟩
theorem RowO.upd {w w':World} {b off:Nat} {l:List α} {bss:List (List Nat)} (h:RowO k CO w b off l bss) (hs:w.heap.size≤w'.heap.size) (i:Nat) (hi:i<l.length) (d':α) (bs':List Nat) (cs':List Value)
  (hf:∀t,t<l.length*k→w'.frozen? ⟨b,off+t,none⟩=w.frozen? ⟨b,off+t,none⟩)
  (ho:∀t,(t<i*k∨i*k+k≤t)→w'.cell? ⟨b,off+t,none⟩=w.cell? ⟨b,off+t,none⟩)
  (hl:cs'.length=k) (hn:∀e,e<k→w'.cell? ⟨b,off+(i*k+e),none⟩=cs'[e]?) (hC':CO w' cs' d' bs')
  (hC:∀j cs d,j≠i→l[j]?=some d→CO w cs d (bss.getD j [])→CO w' cs d (bss.getD j [])):RowO k CO w' b off (l.set i d') (bss.set i bs'):=by
 obtain⟨h1,h2,h3,h4⟩:=h;refine⟨by simp[h1],Nat.lt_of_lt_of_le h2 hs,fun t ht=>?_,fun j d hd=>?_⟩
 ·rw[List.length_set] at ht;rw[hf t ht];exact h3 t ht
 ·by_cases hji:j=i
  ·subst hji
   have hd':d=d':=by
    rw[List.getElem?_set_self hi] at hd;exact (Option.some.inj hd).symm
   subst hd';refine⟨cs',hl,hn,?_⟩;rw[List.getD_eq_getElem?_getD,List.getElem?_set_self (by omega)];exact hC'
  ·rw[List.getElem?_set_ne (fun e=>hji e.symm)] at hd;obtain⟨cs,c1,c2,c3⟩:=h4 j d hd;refine⟨cs,c1,fun e he=>?_,?_⟩
   ·rw[ho _ ?_];· exact c2 e he
    rcases Nat.lt_or_gt_of_ne hji with h5|h5
    ·left;have:(j+1)*k≤i*k:=Nat.mul_le_mul_right k h5;rw[Nat.add_mul] at this;omega
    ·right;have:(i+1)*k≤j*k:=Nat.mul_le_mul_right k h5;rw[Nat.add_mul] at this;omega
   ·have e5:(bss.set i bs').getD j []=bss.getD j []:=by
     rw[List.getD_eq_getElem?_getD,List.getD_eq_getElem?_getD,List.getElem?_set_ne (fun e=>hji e.symm)]
    rw[e5];exact hC j cs d hji hd c3
theorem getD_mem_flatten {bss:List (List Nat)} {j x:Nat} (h:x∈bss.getD j []):x∈bss.flatten:=by
 rw[List.getD_eq_getElem?_getD] at h;rcases Nat.lt_or_ge j bss.length with hj|hj
 ·rw[List.getElem?_eq_getElem hj] at h;exact List.mem_flatten.2 ⟨bss[j],List.getElem_mem hj,h⟩
 ·rw[List.getElem?_eq_none hj] at h;simp at h
theorem nodup_apart {bss:List (List Nat)} (h:bss.flatten.Nodup) {i j x:Nat} (hij:i≠j) (h1:x∈bss.getD i []):x∉bss.getD j []:=by
 intro h2
 induction bss generalizing i j with
 |nil=>simp[List.getD] at h1
 |cons a bss ih=>
  rw[List.flatten_cons,List.nodup_append] at h
  cases i with
  |zero=>
   cases j with
   |zero=>exact hij rfl
   |succ j=>exact h.2.2 x (by simpa[List.getD] using h1) x (getD_mem_flatten (j:=j) (by simpa[List.getD] using h2)) rfl
  |succ i=>
   cases j with
   |zero=>exact h.2.2 x (by simpa[List.getD] using h2) x (getD_mem_flatten (j:=i) (by simpa[List.getD] using h1)) rfl
   |succ j=>exact ih (i:=i) (j:=j) h.2.1 (by omega) (by simpa[List.getD] using h1) (by simpa[List.getD] using h2)
def ROSl (k:Nat) (CO:World→List Value→α→List Nat→Prop) (w:World) (v:Value) (l:List α) (bs:List Nat):Prop:=
 (∃a c,v=.slice a 0 c∧c≤maxLen∧l=[]∧bs=[])∨
  ∃b off n cap bss,v=.slice (some ⟨b,off,none⟩) n cap∧l.length=n∧0<n∧n≤cap∧cap≤maxLen∧bs=b::bss.flatten∧RowO k CO w b off l bss
theorem ROSl.below {w w':World} {v:Value} {l:List α} {bs:List Nat} (h:ROSl k CO w v l bs) (hb:Below w.heap.size w w') (hC:∀cs d bs,CO w cs d bs→CO w' cs d bs):ROSl k CO w' v l bs:=by
 rcases h with h|⟨b,off,n,cap,bss,rfl,h1,h2,h3,h4,rfl,h5⟩
 ·exact .inl h
 ·exact .inr ⟨b,off,n,cap,bss,rfl,h1,h2,h3,h4,rfl,h5.keep hb.size (hb.block b h5.2.1) (fun j cs d _ h=>hC cs d _ h)⟩
theorem ROSl.onlyAt {w w':World} {v:Value} {l:List α} {bs bs':List Nat} (h:ROSl k CO w v l bs) (ko:OnlyAt bs' w w') (hn:∀b∈bs,b∉bs') (hC:∀cs d bs,(∀b∈bs,b∉bs')→CO w cs d bs→CO w' cs d bs):ROSl k CO w' v l bs:=by
 rcases h with h|⟨b,off,n,cap,bss,rfl,h1,h2,h3,h4,rfl,h5⟩
 ·exact .inl h
 ·exact .inr ⟨b,off,n,cap,bss,rfl,h1,h2,h3,h4,rfl,h5.keep ko.size (ko.block b h5.2.1 (hn b (by simp))) (fun j cs d _ h=>hC cs d _ (fun x hx=>hn x (by simp only[List.mem_cons];right;exact getD_mem_flatten hx)) h)⟩
theorem ROSl.rd {C:World→List Value→α→Prop} {w:World} {v:Value} {l:List α} {bs:List Nat} (h:ROSl k CO w v l bs) (hC:∀cs d bs,CO w cs d bs→C w cs d):RdSl k C w v l:=by
 rcases h with⟨a,c,rfl,hc,rfl,rfl⟩|⟨b,off,n,cap,bss,rfl,h1,h2,h3,h4,rfl,h5⟩
 ·exact⟨a,0,c,rfl,rfl,Nat.zero_le _,hc,fun h=>by omega⟩
 ·refine⟨_,n,cap,rfl,h1,h3,h4,fun _=>⟨b,off,rfl,h5.2.1,fun j hj=>?_⟩⟩;obtain⟨cs,c1,c2,c3⟩:=h5.2.2.2 j l[j] (List.getElem?_eq_getElem hj);exact⟨cs,c1,c2,hC _ _ _ c3⟩
end
theorem RdSl.at {α:Type} {k:Nat} {C:World→List Value→α→Prop} {w:World} {a:Option Addr} {n cap:Nat} {l:List α} (h:RdSl k C w (.slice a n cap) l):l.length=n∧n≤cap∧cap≤maxLen∧(0<n→∃b off,a=some ⟨b,off,none⟩∧b<w.heap.size∧∀j d,l[j]?=some d→∃cs,cs.length=k∧(∀i,i<k→w.cell? ⟨b,off+(j*k+i),none⟩=cs[i]?)∧C w cs d):=by
 obtain⟨a',n',cap',e,rfl,h1,h2,h3⟩:=h
 cases e;refine⟨rfl,h1,h2,fun h0=>?_⟩;obtain⟨b,off,rfl,hlt,hc⟩:=h3 h0;refine⟨b,off,rfl,hlt,fun j d hd=>?_⟩;obtain⟨hj,rfl⟩:=List.getElem?_eq_some_iff.1 hd;exact hc j hj
theorem newBox (w:World) (cs:Array Value) (T:TypeId) (i:Nat) (v:Value) (h:cs[i]?=some v):(w.alloc (.cells cs T)).cell? ⟨w.heap.size,i,none⟩=some v:=by
 unfold World.cell?;rw[heap_alloc_new w (.cells cs T)];exact h
theorem box1 (w:World) (cs:Array Value) (T:TypeId) (o2 o3:Obj) (i:Nat) (v:Value) (h:cs[i]?=some v):(((w.alloc (.cells cs T)).alloc o2).alloc o3).cell? ⟨w.heap.size,i,none⟩=some v:=
 cellk (below_alloc _ _) (cellk (below_alloc _ _) (newBox w cs T i v h))
theorem box2 (w:World) (o1:Obj) (cs:Array Value) (T:TypeId) (o3:Obj) (i:Nat) (v:Value) (h:cs[i]?=some v):(((w.alloc o1).alloc (.cells cs T)).alloc o3).cell? ⟨w.heap.size+1,i,none⟩=some v:=by
 have:=newBox (w.alloc o1) cs T i v h;exact cellk (below_alloc _ _) (by simpa using this)
theorem box3 (w:World) (o1 o2:Obj) (cs:Array Value) (T:TypeId) (i:Nat) (v:Value) (h:cs[i]?=some v):(((w.alloc o1).alloc o2).alloc (.cells cs T)).cell? ⟨w.heap.size+1+1,i,none⟩=some v:=by
 have:=newBox ((w.alloc o1).alloc o2) cs T i v h;simpa using this
end Go.Proofs.YtpedpbbiamhgdaaGreatDoor
namespace Go.Proofs.YtpedpbbiamhgdaaGreatDoor
open Go Go.RowKit
set_option linter.unusedVariables false
section
variable {P:Program}
theorem step_app1D {w w0:World} {ops:Array Oper} {o:Oper} {a:Act} {K:Act→World→Prop} {Q:Exit→Act→World→Prop} {F:Prop} (hgd:o.guard=none) (s x:Operand) (t:TypeId)
  (ho:o.op=.call { callee:=.builtin .append,args:=#[s,x],argTypes:=#[t,t] })
  (E:TypeId) (z:Value) (size bytes:Nat) (ht:P.underlying t=some (.slice E)) (hinfo:(P.info? E).map (fun i=>(i.zero,i.size,i.bytes))=some (some z,size,bytes)) (h8:bytes≤128) (hsz:0<size) (hzs:z.cells.size=size)
  (v:Value) (n:Nat) (cs:List Value) (hs:a.eval s=v) (hown:BuiltC E size w0 w v n cs) (g:Nat) (new:List Value) (hnew:new.length=size) (h1:∀u∈new,u.oneCell'=true)
  (hx:a.eval x=.slice (some ⟨g,0,none⟩) 1 1) (hblk:w.heap[g]?=some (.cells new.toArray E (0,0))) (hn:n+1≤1099511627776)
  (hK:∀g' cap' w',BuiltC E size w0 w' (.slice (some ⟨g',0,none⟩) (n+1) cap') (n+1) (cs++new)→OnlyAt (blk v) w w'→(∀b∈blk (.slice (some ⟨g',0,none⟩) (n+1) cap'),b∈blk v∨b=w.heap.size)→K (a.put o.dst (.slice (some ⟨g',0,none⟩) (n+1) cap')) w'):if Region.wanted o (yielded ops a.tmps)=true then Oper.wp P o a w K Q else F:=by
 obtain⟨i,hi,hz0,hz1,hz2⟩:=info_parts hinfo;have hsw:=hown.2.size
 have hlen:(n+1)*bytes≤140737488355328:=by
  have:(n+1)*bytes≤1099511627776*128:=Nat.mul_le_mul hn h8;omega
 have hob:∀k,v.ownBlock=some k→k∈blk v:=by
  intro k hk
  cases v with
  |slice ad m c=>cases ad with
   |none=>cases hk
   |some ad=>cases hk;simp[blk]
  |_=>cases hk
 refine step_append_lies w hgd s x t ho w0.heap.size E i z size bytes ht hi hz0 hz1 hz2 hzs hsz v n cs hs hown.1 ⟨g,0,none⟩ 1 1 new hx (by simpa using hnew) ?_ h1 (by omega) (by unfold maxLen;omega) hlen hsw w.heap.size rfl ?_
 ·intro j u hu;rw[Addr.add_lit,Nat.zero_add,cell_of_row w g j _ E (0,0) hblk];simpa using hu
 ·intro g' cap w' ho' hg hat hlt;refine hK _ _ w' ⟨ho',hown.2.grown hg hsw fun j hj=>(hown.1.lt j hj).1⟩ (onlyAt_grown _ hg (fun k hk=>hob k hk)) ?_;intro b hb;simp[blk] at hb;subst hb;rcases hat with h|h
  ·exact .inl (hob _ h)
  ·exact .inr h
end
section
variable {P:Program}
theorem run_append_none_any {w:World} (base:Nat) (t ty e:TypeId) (i:TypeInfo) (size:Nat) (c:Nat) (ht:P.underlying t=some (.slice e)) (hi:P.info? e=some i)
  (v:Value) (n:Nat) (xs:List Value) (hown:w.ownsRow base e size v n xs) :
  (Builtin.append_ #[t,t] ty #[v,.slice none 0 c]).run P w=.ok v w:=by
 rcases hown.2 with⟨rfl,rfl⟩|⟨g,cap,cur,rfl,_,_,hnc,_⟩
 ·simp[Builtin.append_,run_underlying ht,sizeOf,typeInfo,hi,Builtin.lenOf,Builtin.firstCells]
 ·simp[Builtin.append_,run_underlying ht,sizeOf,typeInfo,hi,Builtin.lenOf,Builtin.firstCells,hnc,storeCells]
theorem step_appInts {w w0:World} {ops:Array Oper} {o:Oper} {a:Act} {K:Act→World→Prop} {Q:Exit→Act→World→Prop} {F:Prop} (hgd:o.guard=none) (s x:Operand) (t:TypeId)
  (ho:o.op=.call { callee:=.builtin .append,args:=#[s,x],argTypes:=#[t,t] })
  (E:TypeId) (ht:P.underlying t=some (.slice E)) (hinfo:(P.info? E).map (fun i=>(i.zero,i.size,i.bytes))=some (some (.int .i64 0),1,8))
  (v:Value) (l0:List Int) (hs:a.eval s=v) (hown:Built .i64 E w0 w v l0) (xv:Value) (l:List Int) (hx:a.eval x=xv) (hxi:Ints w xv l) (hn:l0.length+l.length≤1099511627776)
  (hK:∀v' w',Built .i64 E w0 w' v' (l0++l)→K (a.put o.dst v') w'):if Region.wanted o (yielded ops a.tmps)=true then Oper.wp P o a w K Q else F:=by
 have hw:Region.wanted o (yielded ops a.tmps)=true:=by simp[Region.wanted,hgd]
 rw[if_pos hw];obtain⟨i,hi,hz0,hz1,hz2⟩:=info_parts hinfo;have hsw:=hown.2.size
 have key:∀(ad:Addr) (k c:Nat),xv=.slice (some ad) k c→l.length=k→(∀j,j<k→w.cell? (ad.add j)=some (.int .i64 (l.getD j 0)))→Oper.wp P o a w K Q:=by
  intro ad k c hv hlk hcell;refine wp_append_own w s x t ho w0.heap.size E i (.int .i64 0) 1 8 ht hi hz0 hz1 hz2 (by rfl) (by decide) v l0.length (l0.map (Value.int .i64)) hs hown.1 ad k c (l.map (Value.int .i64)) (by rw[hx,hv]) (by simp[hlk]) ?_ ?_ (by unfold maxLen;omega) (by omega) hsw ?_
  ·intro j u hu;rw[List.getElem?_map,Option.map_eq_some_iff] at hu;obtain⟨y,hy,rfl⟩:=hu;have hj:j<k:=by rw[←hlk];exact (List.getElem?_eq_some_iff.1 hy).1
   rw[hcell j hj];simp[List.getD,hy]
  ·intro u hu;obtain⟨y,_,rfl⟩:=List.mem_map.1 hu;rfl
  ·intro v' w' ho' hg _;refine hK v' w' ⟨?_,hown.2.grown hg hsw fun j hj=>(hown.1.lt j hj).1⟩;have h5:(l0++l).length=l0.length+k:=by rw[List.length_append,hlk]
   rw[h5,List.map_append];exact ho'
 rcases hxi.2 with⟨ad,c,hv,hc,rfl⟩|⟨b,off,len,c,hv,hl,h1,h2,hlt,hc⟩
 ·cases ad with
  |some ad=>exact key ad 0 c hv rfl (fun j hj=>by omega)
  |none=>
   have hrun:=run_append_none_any (P:=P) (w:=w) w0.heap.size t o.type E i 1 c ht hi v l0.length (l0.map (Value.int .i64)) hown.1;have hx2:a.eval x=.slice none 0 c:=by rw[hx,hv]
   unfold Oper.wp;simp[execOp,ho,resolve,invoke,builtin,hs,hx2,hrun,Result.andThen];exact hK v w (by simpa using hown)
 ·exact key ⟨b,off,none⟩ len c hv hl (fun j hj=>by rw[Addr.add_lit];exact hc j hj)
theorem wpList_appInts {w w0:World} {ops:Array Oper} {rest:List Oper} {o:Oper} {a:Act} {Q:Exit→Act→World→Prop} (hgd:o.guard=none) (s x:Operand) (t:TypeId)
  (ho:o.op=.call { callee:=.builtin .append,args:=#[s,x],argTypes:=#[t,t] })
  (E:TypeId) (ht:P.underlying t=some (.slice E)) (hinfo:(P.info? E).map (fun i=>(i.zero,i.size,i.bytes))=some (some (.int .i64 0),1,8))
  (v:Value) (l0:List Int) (hs:a.eval s=v) (hown:Built .i64 E w0 w v l0) (xv:Value) (l:List Int) (hx:a.eval x=xv) (hxi:Ints w xv l) (hn:l0.length+l.length≤1099511627776)
  (h:∀v' w',Built .i64 E w0 w' v' (l0++l)→wpList P ops Q rest (a.put o.dst v') w'):wpList P ops Q (o::rest) a w:=by
 refine wpList_plain hgd fun K hK=>?_
 have:=step_appInts (P:=P) (K:=K) (Q:=Q) (ops:=ops) (F:=True) hgd s x t ho E ht hinfo v l0 hs hown xv l hx hxi hn (fun v' w' hb=>hK _ _ (h v' w' hb))
 rwa [if_pos (by simp[Region.wanted,hgd])] at this
end
theorem run_copy_rowC {P:Program} (w:World) (dT sT ty elem:TypeId) (size m:Nat) (g o dLen dCap:Nat) (a:Addr) (sLen sCap:Nat) (cur:Array Value) (t:TypeId) (cs:List Value)
  (hu:P.underlying dT=some (.slice elem)) (hs:(P.info? elem).map (·.size)=some size)
  (hg:w.heap[g]?=some (.cells cur t (0,0))) (hm:Nat.min sLen dLen=m) (hn:cs.length=m*size)
  (hsrc:∀j v,cs[j]?=some v→w.cell? (a.add j)=some v) (hfit:o+cs.length≤cur.size) (h1:∀v∈cs,v.oneCell'=true) :
  (Builtin.copy_ #[dT,sT] ty #[.slice (some ⟨g,o,none⟩) dLen dCap,.slice (some a) sLen sCap]).run P w =
   .ok (goInt m) (w.setRow g (cur.toList.take o++cs++cur.toList.drop (o+cs.length)).toArray):=by
 have hl:=run_loadCells_list (P:=P) w a cs hsrc;have hst:=run_storeCells_at P g o t cs 0 cur w hg (by simpa using hfit) h1
 cases hq:P.info? elem with
 |none=>simp[hq] at hs
 |some i=>
  have hi:i.size=size:=by simpa[hq] using hs
  rw[hn] at hl;simp[Builtin.copy_,run_underlying hu,Builtin.lenOf,Builtin.firstCells,sizeOf,typeInfo,hq,hi,hm,hl,hst]
theorem splice_take (L X:List Value) (o N:Nat) (h:o+X.length≤N) (hN:N≤L.length):(L.take o++(X++L.drop (o+X.length))).take N=splice (L.take N) o X:=by
 have e:L=L.take N++L.drop N:=(List.take_append_drop N L).symm;have hl:(L.take N).length=N:=by simp;omega
 generalize L.take N=A at *;generalize L.drop N=B at *;subst e;unfold splice;rw[List.take_append_of_le_length (l₁:=A) (l₂:=B) (i:=o) (by omega),List.drop_append_of_le_length (l₁:=A) (l₂:=B) (i:=o+X.length) (by omega)];have:A.take o++(X++(A.drop (o+X.length)++B))=(A.take o++(X++A.drop (o+X.length)))++B:=by simp
 rw[this,List.take_append_of_le_length (by simp;omega),List.take_of_length_le (by simp;omega)]
theorem BuiltC.splice {E:TypeId} {size:Nat} {w0 w:World} {g n cap:Nat} {cs:List Value} (h:BuiltC E size w0 w (.slice (some ⟨g,0,none⟩) n cap) n cs):∃cur:Array Value,w.heap[g]?=some (.cells cur E (0,0))∧cur.toList.take (n*size)=cs∧n*size≤cur.size∧
  ∀(o:Nat) (X:List Value),o+X.length≤n*size→BuiltC E size w0 (w.setRow g (cur.toList.take o++X++cur.toList.drop (o+X.length)).toArray) (.slice (some ⟨g,0,none⟩) n cap) n (splice cs o X):=by
 have hlen:=h.len;rcases h.1.2 with⟨h1,_⟩|⟨g',cap',cur,he,hbase,hg,hc1,hc2,hc3,hc4⟩
 ·cases h1
 ·cases he;have hle:n*size≤cur.size:=by rw[hc3];exact Nat.mul_le_mul_right _ hc1
  refine⟨cur,hg,hc4,hle,fun o X hX=>⟨⟨?_,.inr ⟨g,cap,_,rfl,hbase,setRow_heap w g cur _ E _ hg,hc1,hc2,?_,?_⟩⟩,h.2.trans ?_⟩⟩
  ·rw[length_splice _ _ _ (by omega)];exact hlen
  ·simp;omega
  ·rw[List.append_assoc,splice_take _ _ _ _ hX (by simpa using hle),hc4]
  ·exact⟨rfl,rfl,rfl,by simp[World.setRow],fun k hk=>setRow_other w g k _ (by omega)⟩
section
variable {P:Program}
end
end Go.Proofs.YtpedpbbiamhgdaaGreatDoor
