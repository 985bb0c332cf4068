import Derived.Test.YtpedpbbiamhgdaaGreatDoorSatom
import Derived.Laws.CopyOwn
import Derived.Deep.RegionLaw
import Derived.ChangeKeysEq
import Derived.Test.YtpedpbbiamhgdaaGreatDoorSquery
namespace Go.Proofs.YtpedpbbiamhgdaaGreatDoor
open Go Go.Sort Go.RowKit
set_option linter.unusedVariables false
def tri (l:List Int):Value:=.agg #[.int .i64 (l.getD 0 0),.int .i64 (l.getD 1 0),.int .i64 (l.getD 2 0)]
theorem tri_splice (l:List Int):splice [Value.int .i64 0,.int .i64 0,.int .i64 0] 0 ((l.take 3).map (Value.int .i64))=[.int .i64 (l.getD 0 0),.int .i64 (l.getD 1 0),.int .i64 (l.getD 2 0)]:=by
 match l with
 |[]=>rfl
 |[x]=>rfl
 |[x,y]=>rfl
 |x::y::z::t=>simp[splice]
theorem info_int3:(Tryz.prog.info? 3).map (·.size)=some 1:=by kernel_rfl
theorem setRow_new (w:World) (t:TypeId) (cs cs':Array Value):(w.alloc (.cells cs t)).setRow w.heap.size cs'=w.alloc (.cells cs' t):=by
 unfold World.setRow World.alloc;simp only[World.mk.injEq,and_true];apply Array.ext_getElem?;intro i;rw[Array.getElem?_modify];by_cases h:w.heap.size=i
 ·subst h;simp
 ·rw[if_neg h];simp[Array.getElem?_push,Ne.symm h]
theorem run_copy3 (w:World) (a:Option Addr) (n cap:Nat) (l:List Int) (hl:l.length=n) (hc:0<n→∃b off,a=some ⟨b,off,none⟩∧∀j,j<n→(w.alloc (.cells #[.int .i64 0,.int .i64 0,.int .i64 0] 161)).cell? ⟨b,off+j,none⟩=some (.int .i64 (l.getD j 0))) :
  (Builtin.copy_ #[24,24] 3 #[.slice (some ⟨w.heap.size,0,none⟩) 3 3,.slice a n cap]).run Tryz.prog (w.alloc (.cells #[.int .i64 0,.int .i64 0,.int .i64 0] 161)) =
   .ok (goInt (Nat.min n 3)) (w.alloc (.cells #[.int .i64 (l.getD 0 0),.int .i64 (l.getD 1 0),.int .i64 (l.getD 2 0)] 161)):=by
 have hT:=tri_splice l;by_cases h0:n=0
 ·have:l=[]:=List.eq_nil_of_length_eq_zero (by omega);subst h0;subst this;rw[run_copy_none _ 24 24 3 3 _ _ 3 3 0 cap Tryz.underlying24 info_int3 rfl];rfl
 ·obtain⟨b,off,rfl,hcc⟩:=hc (by omega);have hcl:((l.take 3).map (Value.int .i64)).length=Nat.min n 3:=by simp[hl,Nat.min_comm]
  have h3:Nat.min n 3≤3:=Nat.min_le_right _ _;have h4:Nat.min n 3≤n:=Nat.min_le_left _ _
  have e:=run_copy_row (P:=Tryz.prog) (w.alloc (.cells #[.int .i64 0,.int .i64 0,.int .i64 0] 161)) 24 24 3 3 w.heap.size 0 3 3 ⟨b,off,none⟩ n cap #[.int .i64 0,.int .i64 0,.int .i64 0] 161 ((l.take 3).map (Value.int .i64)) Tryz.underlying24 info_int3 (by unfold World.alloc;exact Array.getElem?_push_size) hcl
   (fun j v hj=>by
    rw[List.getElem?_map,Option.map_eq_some_iff] at hj;obtain⟨x,hx,rfl⟩:=hj;rw[List.getElem?_take] at hx
    split at hx
    ·have hjn:j<n:=by rw[←hl];exact (List.getElem?_eq_some_iff.1 hx).1
     have:=hcc j hjn;rw[show l.getD j 0=x by simp[List.getD,hx]] at this;have ea:(⟨b,off,none⟩:Addr).add j=⟨b,off+j,none⟩:=by unfold Addr.add;split<;>simp_all
     rw[ea];exact this
    ·cases hx)
   (by rw[hcl];simpa using h3) (fun v hv=>by obtain⟨x,_,rfl⟩:=List.mem_map.1 hv;rfl)
  rw[e,hcl,setRow_new]
  have e2:(#[Value.int .i64 0,.int .i64 0,.int .i64 0].toList.take 0++(l.take 3).map (Value.int .i64) ++ #[Value.int .i64 0,.int .i64 0,.int .i64 0].toList.drop (0+((l.take 3).map (Value.int .i64)).length)).toArray=#[.int .i64 (l.getD 0 0),.int .i64 (l.getD 1 0),.int .i64 (l.getD 2 0)]:=by
   have:[Value.int .i64 (l.getD 0 0),.int .i64 (l.getD 1 0),.int .i64 (l.getD 2 0)]=#[Value.int .i64 (l.getD 0 0),.int .i64 (l.getD 1 0),.int .i64 (l.getD 2 0)].toList:=rfl;rw[←Array.toList_inj,←this,←hT];simp[splice]
  rw[hcl] at e2;rw[e2]
set_option maxHeartbeats 1000000 in
theorem iFirst_any (w:World) (v:Value) (l:List Int) (h:Ints w v l) :
  Calls Tryz.prog 167 #[v] w fun e w'=>e=.returned (tri l)∧Below w.heap.size w w':=by
 obtain⟨a,n,cap,rfl,hl,hn,hm,hcell⟩:=h.cases;unfold maxLen at hm
 have hrun:=run_copy3 (w.alloc (.cells #[.int .i64 0,.int .i64 0,.int .i64 0] 161)) a n cap l hl (fun h=>by
  obtain⟨b,off,rfl,hbw,hc⟩:=hcell h;exact⟨b,off,rfl,fun j hj=>cellk ((below_alloc w _).trans ((below_alloc _ _).mono (by simp))) (hc j hj)⟩)
 rw[show (w.alloc (.cells #[.int .i64 0,.int .i64 0,.int .i64 0] 161)).heap.size=w.heap.size+1 by simp] at hrun;have HB:=Lib.hid (fun o o'=>(below_alloc w o).trans ((below_alloc _ o').mono (by simp):Below w.heap.size _ _));unfold tri;generalize l.getD 0 0=x at *;generalize l.getD 1 0=y at *;generalize l.getD 2 0=z at *;generalize goInt (Nat.min n 3)=q at *;clear h hcell hl;go_enter Tryz.func167,Tryz.ntmps167
 go_wp2_with fail
 exact bodyPost_ret (v:=.agg #[.int .i64 x,.int .i64 y,.int .i64 z]) (by simp[results,Tryz.results167,go_sem]) rfl ⟨rfl,HB.out _ _⟩
def packed (r:Int) (n:Nat) (l:List Int):Value:=.agg #[.int .i64 r,.int .i64 n,.int .i64 (l.getD 0 0),.int .i64 (l.getD 1 0),.int .i64 (l.getD 2 0)]
set_option maxHeartbeats 2000000 in
theorem iPack_any (w:World) (r:Int) (v:Value) (l:List Int) (h:Ints w v l) :
  Calls Tryz.prog 137 #[.agg #[.int .i64 r,v]] w fun e w'=>e=.returned (packed r l.length l)∧Below w.heap.size w w':=by
 obtain⟨a,n,cap,rfl,hl,hn,hm,hcell⟩:=h.cases;unfold maxLen at hm;have hF:=Lib.hid (fun w h=>iFirst_any w (.slice a n cap) l h);have HT:=Lib.hid h;have HB0:=Lib.hid (fun o o'=>(below_alloc w o).trans ((below_alloc _ o').mono (by simp):Below w.heap.size _ _));unfold packed;rw[hl];unfold tri at hF;generalize l.getD 0 0=x at *;generalize l.getD 1 0=y at *;generalize l.getD 2 0=z at *;clear h hcell hl;go_enter Tryz.func137,Tryz.ntmps137
 go_wp2_with fail
 go_region_law (first
  |(go_simp;go_at_call 167;refine (hF.out _ (HT.out.below (HB0.out _ _).drew)).mono ?_;rintro e w1 ⟨rfl,hb⟩;have b0:=cellk hb (b:=w.heap.size) (o:=0) (v:=.int .i64 r) (by simp);have b1:=cellk hb (b:=w.heap.size) (o:=1) (v:=.slice a n cap) (by simp);have z0:=cellk hb (b:=w.heap.size+1) (o:=0) (v:=.int .i64 0) (by simp);have z1:=cellk hb (b:=w.heap.size+1) (o:=1) (v:=.int .i64 0) (by simp);have z2:=cellk hb (b:=w.heap.size+1) (o:=2) (v:=.int .i64 0) (by simp);have z3:=cellk hb (b:=w.heap.size+1) (o:=3) (v:=.int .i64 0) (by simp);have z4:=cellk hb (b:=w.heap.size+1) (o:=4) (v:=.int .i64 0) (by simp);have f0:w1.frozen? ⟨w.heap.size+1,0,none⟩=false:=frok hb (v:=.int .i64 0) (by simp) (by simp);have f1:w1.frozen? ⟨w.heap.size+1,1,none⟩=false:=frok hb (v:=.int .i64 0) (by simp) (by simp);have f2:w1.frozen? ⟨w.heap.size+1,2,none⟩=false:=frok hb (v:=.int .i64 0) (by simp) (by simp);have f3:w1.frozen? ⟨w.heap.size+1,3,none⟩=false:=frok hb (v:=.int .i64 0) (by simp) (by simp);have f4:w1.frozen? ⟨w.heap.size+1,4,none⟩=false:=frok hb (v:=.int .i64 0) (by simp) (by simp);have HB1:=Lib.hid (bnext (HB0.out _ _).drew hb);have hlt:=World.block_lt_of_cell? w1 _ z0;clear hb))
 all_goals (go_wp2_with fail)
 all_goals exact bodyPost_ret (v:=.agg #[.int .i64 r,.int .i64 n,.int .i64 x,.int .i64 y,.int .i64 z]) (by simp[results,Tryz.results137,go_sem,z0,z1,z2,z3,z4]) rfl ⟨rfl,((((HB1.out.setCell (by simp) _).setCell (by simp) _).setCell (by simp) _).setCell (by simp) _).setCell (by simp) _⟩
theorem plain_int:Tryz.prog.plainKey 3=true:=by kernel_rfl
theorem cells_int:Tryz.prog.cellsOf 3=1:=by kernel_rfl
theorem info_int_some:∃i,Tryz.prog.info? 3=some i:=Option.isSome_iff_exists.1 (by kernel_rfl)
theorem und_tri:Tryz.prog.underlying 161=some (.array 3 3):=by kernel_rfl
theorem eq_tri (w:World) (d:Nat) (x y z x' y' z':Int) :
  (Op.equalIn (d+2) 161 (.agg #[.int .i64 x,.int .i64 y,.int .i64 z]) (.agg #[.int .i64 x',.int .i64 y',.int .i64 z'])).run Tryz.prog w=.ok (decide (x=x'∧y=y'∧z=z')) w:=by
 obtain⟨i,hi⟩:=info_int_some;rw[run_equalIn_array w (d+1) _ _ und_tri hi,cells_int];have hp:∀(xs:Array Value) (off:Nat) (v:Value),xs[off]?=some v→(part 3 xs off).run Tryz.prog w=.ok v w:=fun xs off v h=>run_part_plain w plain_int h
 have he:∀a b:Int,(Op.equalIn (d+1) 3 (.int .i64 a) (.int .i64 b)).run Tryz.prog w=.ok (a==b) w:=fun a b=>run_equalIn_int w d _ .i64 .i64 a b Tryz.underlying3
 generalize d+1=D at *;rw[show List.range 3=[0,1,2] from rfl];have g0:∀a b c:Value,(part 3 #[a,b,c] (0*1)).run Tryz.prog w=.ok a w:=fun a b c=>hp _ _ a rfl
 have g1:∀a b c:Value,(part 3 #[a,b,c] (1*1)).run Tryz.prog w=.ok b w:=fun a b c=>hp _ _ b rfl
 have g2:∀a b c:Value,(part 3 #[a,b,c] (2*1)).run Tryz.prog w=.ok c w:=fun a b c=>hp _ _ c rfl
 by_cases h1:x=x'<;>by_cases h2:y=y'<;>by_cases h3:z=z'<;>simp[Op.eqItems,g0,g1,g2,he,h1,h2,h3]
theorem neq_tri (w:World) (x y z x' y' z':Int) :
  (binOp .neq 161 (.agg #[.int .i64 x,.int .i64 y,.int .i64 z]) (.agg #[.int .i64 x',.int .i64 y',.int .i64 z'])).run Tryz.prog w=.ok (.bool (!decide (x=x'∧y=y'∧z=z'))) w:=by
 rw[run_neq_struct,eq_tri w 9998];rfl
theorem und_packed:Tryz.prog.underlying 163=some (.struct (Tryz.prog.fieldsOf 163)):=by kernel_rfl
theorem fields_packed:((Tryz.prog.fieldsOf 163).toList.map (fun f=>(f.type,f.offset))=[(3,0),(3,1),(161,2)])∧(∀f∈(Tryz.prog.fieldsOf 163).toList,f.name≠ "_"):=
 ⟨by kernel_rfl,by
  have:((Tryz.prog.fieldsOf 163).toList.all (fun f=>f.name != "_"))=true:=by kernel_rfl
  intro f hf;simpa using List.all_eq_true.1 this f hf⟩
theorem eq_packed (w:World) (d:Nat) (r n x y z r' n' x' y' z':Int) :
  (Op.equalIn (d+3) 163 (.agg #[.int .i64 r,.int .i64 n,.int .i64 x,.int .i64 y,.int .i64 z]) (.agg #[.int .i64 r',.int .i64 n',.int .i64 x',.int .i64 y',.int .i64 z'])).run Tryz.prog w=.ok (decide (r=r'∧n=n'∧x=x'∧y=y'∧z=z')) w:=by
 rw[run_equalIn_struct w (d+2) _ _ _ und_packed (by kernel_rfl)];obtain⟨hf,hn⟩:=fields_packed;generalize (Tryz.prog.fieldsOf 163).toList=fs at *
 obtain⟨f1,f2,f3,rfl⟩:∃f1 f2 f3,fs=[f1,f2,f3]:=by
  have hlen:=congrArg List.length hf;rw[List.length_map] at hlen;rcases fs with _|⟨a,_|⟨b,_|⟨c,_|⟨e,t⟩⟩⟩⟩
  ·simp at hlen
  ·simp at hlen
  ·simp at hlen
  ·exact⟨a,b,c,rfl⟩
  ·simp at hlen
 simp only[List.map_cons,List.map_nil,List.cons.injEq,Prod.mk.injEq,and_true] at hf;obtain⟨⟨t1,o1⟩,⟨t2,o2⟩,t3,o3⟩:=hf;have n1:=hn f1 (by simp);have n2:=hn f2 (by simp);have n3:=hn f3 (by simp);have hp:∀(xs:Array Value) (off:Nat) (v:Value),xs[off]?=some v→(part 3 xs off).run Tryz.prog w=.ok v w:=fun xs off v h=>run_part_plain w plain_int h
 have he:∀a b:Int,(Op.equalIn (d+2) 3 (.int .i64 a) (.int .i64 b)).run Tryz.prog w=.ok (a==b) w:=fun a b=>run_equalIn_int w (d+1) _ .i64 .i64 a b Tryz.underlying3
 have ht:=eq_tri w d;generalize d+2=D at *
 have ha:∀(a b c e g:Value),(part 161 #[a,b,c,e,g] 2).run Tryz.prog w=.ok (.agg #[c,e,g]) w:=by
  intro a b c e g;unfold part;simp
 have g0:∀a b c e g:Value,(part 3 #[a,b,c,e,g] 0).run Tryz.prog w=.ok a w:=fun a b c e g=>hp _ _ a rfl
 have g1:∀a b c e g:Value,(part 3 #[a,b,c,e,g] 1).run Tryz.prog w=.ok b w:=fun a b c e g=>hp _ _ b rfl
 by_cases h1:r=r'<;>by_cases h2:n=n'<;>by_cases h3:x=x'∧y=y'∧z=z'<;>simp[Op.eqFields,n1,n2,n3,t1,t2,t3,o1,o2,o3,g0,g1,he,ha,ht,h1,h2,h3]
theorem neq_packed (w:World) (r n x y z r' n' x' y' z':Int) :
  (binOp .neq 163 (.agg #[.int .i64 r,.int .i64 n,.int .i64 x,.int .i64 y,.int .i64 z]) (.agg #[.int .i64 r',.int .i64 n',.int .i64 x',.int .i64 y',.int .i64 z'])).run Tryz.prog w=.ok (.bool (!decide (r=r'∧n=n'∧x=x'∧y=y'∧z=z'))) w:=by
 rw[run_neq_struct,eq_packed w 9997];rfl
theorem Ints.dropAt {w:World} {b off n cap:Nat} {l:List Int} (h:Ints w (.slice (some ⟨b,off,none⟩) n cap) l) (i:Nat) (hi:i≤n):Ints w (.slice (some ⟨b,off+i,none⟩) (n-i) (cap-i)) (l.drop i):=by
 refine⟨fun x hx=>h.1 x (List.mem_of_mem_drop hx),?_⟩;rcases h.2 with⟨a,c,e,hc,rfl⟩|⟨b',off',len,c,e,hl,h1,h2,hlt,hc⟩
 ·cases e;exact .inl ⟨_,_,by rw[Nat.zero_sub],by omega,by simp⟩
 ·cases e;refine .inr ⟨b,off+i,n-i,cap-i,rfl,by simp[hl],by omega,by omega,hlt,fun j hj=>?_⟩;rw[Nat.add_assoc,hc (i+j) (by omega)];simp[List.getD]
theorem getD_drop (l:List Int) (i j:Nat):(l.drop i).getD j 0=l.getD (i+j) 0:=by simp[List.getD]
set_option maxHeartbeats 1000000 in
theorem iEqualAtoms_any (w:World) (r r':Int) (v v':Value) (l l':List Int) (h:Ints w v l) (h':Ints w v' l') (hz:l.length≤1048576) :
  Calls Tryz.prog 170 #[.agg #[.int .i64 r,v],.agg #[.int .i64 r',v']] w (GaveBool w (decide (r=r'∧l=l'))):=by
 obtain⟨a,n,cap,rfl,hl,hn,hm,hcell⟩:=h.cases;obtain⟨a',n',cap',rfl,hl',hn',hm',hcell'⟩:=h'.cases;unfold maxLen at hm hm';have HB0:=Lib.hid (fun o o'=>(below_alloc w o).trans ((below_alloc _ o').mono (by simp):Below w.heap.size _ _));have hP:=Lib.hid (fun w h=>iPack_any w r (.slice a n cap) l h);have hP':=Lib.hid (fun w h=>iPack_any w r' (.slice a' n' cap') l' h);have HT:=Lib.hid h;have HT':=Lib.hid h';unfold packed at hP hP';rw[hl] at hP;rw[hl'] at hP';have hne:=fun w=>neq_packed w r n (l.getD 0 0) (l.getD 1 0) (l.getD 2 0) r' n' (l'.getD 0 0) (l'.getD 1 0) (l'.getD 2 0)
 have hgd:Tryz.prog.eqGuardType Tryz.prog.depth 163=false:=by kernel_rfl
 have HC:=Lib.hid hcell;have HC':=Lib.hid hcell';have HL:=Lib.hid hl;have HL':=Lib.hid hl';obtain⟨q,hq⟩:∃q,decide (r=r'∧(n:Int)=n'∧l.getD 0 0=l'.getD 0 0∧l.getD 1 0=l'.getD 1 0∧l.getD 2 0=l'.getD 2 0)=q:=⟨_,rfl⟩
 rw[hq] at hne;have HQ:=Lib.hid hq
 have H3':Hid (q=true→∀j,j<3→l.getD j 0=l'.getD j 0):=fun e j hj=>by
  rw[e] at hq;obtain⟨_,_,h0,h1,h2⟩:=of_decide_eq_true hq;rcases (by omega:j=0∨j=1∨j=2) with rfl|rfl|rfl
  ·exact h0
  ·exact h1
  ·exact h2
 have HF:Hid (q=false→decide (r=r'∧l=l')=false):=fun e=>by
  rw[e] at hq;refine decide_eq_false (fun hc=>of_decide_eq_false hq ⟨hc.1,?_,?_,?_,?_⟩)
  ·rw[←hl,←hl',hc.2]
  ·rw[hc.2]
  ·rw[hc.2]
  ·rw[hc.2]
 rw[hl] at hz;generalize l.getD 0 0=x at *;generalize l.getD 1 0=y at *;generalize l.getD 2 0=z at *;generalize l'.getD 0 0=x' at *;generalize l'.getD 1 0=y' at *;generalize l'.getD 2 0=z' at *;clear h h' hcell hcell' hl hl' hq
 cases q with
 |false=>
  have HNO:Hid (decide (r=r'∧l=l')=false):=HF.out rfl;clear HF H3';go_enter Tryz.func170,Tryz.ntmps170
  go_wp2_with fail
  obtain⟨W,hW⟩:∃W,W=((w.alloc (.cells #[.int .i64 r,.slice a n cap] 83)).alloc (.cells #[.int .i64 r',.slice a' n' cap'] 83)):=⟨_,rfl⟩
  have k0:=cell_regrown (w:=W) (a:=⟨w.heap.size,0,none⟩) (v:=.int .i64 r) (by rw[hW];simp);have k1:=cell_regrown (w:=W) (a:=⟨w.heap.size,1,none⟩) (v:=.slice a n cap) (by rw[hW];simp);have k2:=cell_regrown (w:=W) (a:=⟨w.heap.size+1,0,none⟩) (v:=.int .i64 r') (by rw[hW];simp);have k3:=cell_regrown (w:=W) (a:=⟨w.heap.size+1,1,none⟩) (v:=.slice a' n' cap') (by rw[hW];simp);have HBW:Hid (Below w.heap.size w W):=by rw[hW];exact HB0.out _ _
  rw[←hW];have HVW:=Lib.hid (fun d os=>HT.out.below (HBW.out.trans ((below_regrown W d os).mono HBW.out.size)));have HVW':=Lib.hid (fun d os=>HT'.out.below (HBW.out.trans ((below_regrown W d os).mono HBW.out.size)));clear hW;refine wp_region_quiet_below (by kernel_rfl) (by kernel_rfl) ?_
  repeat (any_goals (first|go_big_quiet_step ((first|(go_at_call 137;with_reducible exact Calls.regrown_of (hP.out _ (HVW.out _ _)))|(go_at_call 137;with_reducible exact Calls.regrown_of (hP'.out _ (HVW'.out _ _)))))|quiet_step ((first|(go_at_call 137;with_reducible exact Calls.regrown_of (hP.out _ (HVW.out _ _)))|(go_at_call 137;with_reducible exact Calls.regrown_of (hP'.out _ (HVW'.out _ _)))))))
  refine wpQuiet_nil ?_;intro _ hw';obtain⟨⟨dq,osq⟩,hw''⟩:=hw';subst hw'';go_wp2_with fail
  go_ret;exact⟨ret_b HNO.out.symm,bnext HBW.out (below_regrown _ _ _)⟩
 |true=>
  obtain⟨rfl,hnn,hjunk⟩:=of_decide_eq_true HQ.out;obtain rfl:n=n':=by omega
  have H3:=Lib.hid (H3'.out rfl);clear hnn HQ hjunk;go_enter Tryz.func170,Tryz.ntmps170
  go_wp2_with fail
  obtain⟨W,hW⟩:∃W,W=((w.alloc (.cells #[.int .i64 r,.slice a n cap] 83)).alloc (.cells #[.int .i64 r,.slice a' n cap'] 83)):=⟨_,rfl⟩
  have k0:=cell_regrown (w:=W) (a:=⟨w.heap.size,0,none⟩) (v:=.int .i64 r) (by rw[hW];simp);have k1:=cell_regrown (w:=W) (a:=⟨w.heap.size,1,none⟩) (v:=.slice a n cap) (by rw[hW];simp);have k2:=cell_regrown (w:=W) (a:=⟨w.heap.size+1,0,none⟩) (v:=.int .i64 r) (by rw[hW];simp);have k3:=cell_regrown (w:=W) (a:=⟨w.heap.size+1,1,none⟩) (v:=.slice a' n cap') (by rw[hW];simp);have KA:Hid (W.cell? ⟨w.heap.size,1,none⟩=some (.slice a n cap)):=by rw[hW];unfold Hid;simp
  have KB:Hid (W.cell? ⟨w.heap.size+1,1,none⟩=some (.slice a' n cap')):=by rw[hW];unfold Hid;simp
  have HBW:Hid (Below w.heap.size w W):=by rw[hW];exact HB0.out _ _
  rw[←hW];have HVW:=Lib.hid (fun d os=>HT.out.below (HBW.out.trans ((below_regrown W d os).mono HBW.out.size)));have HVW':=Lib.hid (fun d os=>HT'.out.below (HBW.out.trans ((below_regrown W d os).mono HBW.out.size)));clear hW;refine wp_region_quiet_below (by kernel_rfl) (by kernel_rfl) ?_
  repeat (any_goals (first|go_big_quiet_step ((first|(go_at_call 137;with_reducible exact Calls.regrown_of (hP.out _ (HVW.out _ _)))|(go_at_call 137;with_reducible exact Calls.regrown_of (hP'.out _ (HVW'.out _ _)))))|quiet_step ((first|(go_at_call 137;with_reducible exact Calls.regrown_of (hP.out _ (HVW.out _ _)))|(go_at_call 137;with_reducible exact Calls.regrown_of (hP'.out _ (HVW'.out _ _)))))))
  refine wpQuiet_nil ?_;intro _ hw';obtain⟨⟨dq,osq⟩,hw''⟩:=hw';subst hw'';go_wp2_with fail
  go_loopw [5] (fun iv wr=>∃i:Nat,3≤i∧i≤n+3∧iv=.int .i64 i∧Below W.heap.size W wr∧Hid (∀j,j<i→j<n→l.getD j 0=l'.getD j 0)) (fun iv _=>n+3-(intOf iv).toNat)
  case atStart=>exact⟨3,by omega,by omega,rfl,below_regrown _ _ _,fun j hj _=>H3.out j hj⟩
  case round=>
   obtain⟨i,hi3,hi,rfl,hb,HE⟩:=hrel;have HB:=Lib.hid hb;have kb1:=cellk hb (KA.out);have kb3:=cellk hb (KB.out);by_cases hlt:i<n
   ·obtain⟨b,off,rfl,hbw,hc⟩:=HC.out (by omega);obtain⟨b',off',rfl,hbw',hc'⟩:=HC'.out (by omega);have hi0:(0:Int)≤i:=by omega
    have hi1:(i:Int)<n:=by omega
    have hi2:(i:Int)≤n:=by omega
    have hi3:¬((cap:Int)<i):=by omega
    have hcn:cap≠i:=by omega
    have hcn':cap'≠i:=by omega
    have k0:=cell_regrown (w:=wr) (a:=⟨w.heap.size,1,none⟩) (v:=.slice (some ⟨b,off,none⟩) n cap) kb1;have k1:=cell_regrown (w:=wr) (a:=⟨w.heap.size+1,1,none⟩) (v:=.slice (some ⟨b',off',none⟩) n cap') kb3;have HV1:Hid (∀d os,Ints (grow (redrawn wr d) os) (.slice (some ⟨b,off+i,none⟩) (n-i) (cap-i)) (l.drop i)):=fun d os=>(Ints.dropAt (HT.out.below (HBW.out.trans (HB.out.trans ((below_regrown wr d os).mono HB.out.size) |>.mono HBW.out.size))) i (by omega))
    have HV2:Hid (∀d os,Ints (grow (redrawn wr d) os) (.slice (some ⟨b',off'+i,none⟩) (n-i) (cap'-i)) (l'.drop i)):=fun d os=>(Ints.dropAt (HT'.out.below (HBW.out.trans (HB.out.trans ((below_regrown wr d os).mono HB.out.size) |>.mono HBW.out.size))) i (by omega))
    have hF1:=fun d os=>iFirst_any _ _ _ (HV1.out d os)
    have hF2:=fun d os=>iFirst_any _ _ _ (HV2.out d os)
    unfold tri at hF1 hF2;have hnt:=fun w=>neq_tri w ((l.drop i).getD 0 0) ((l.drop i).getD 1 0) ((l.drop i).getD 2 0) ((l'.drop i).getD 0 0) ((l'.drop i).getD 1 0) ((l'.drop i).getD 2 0)
    obtain⟨q,hq⟩:∃q,decide ((l.drop i).getD 0 0=(l'.drop i).getD 0 0∧(l.drop i).getD 1 0=(l'.drop i).getD 1 0∧(l.drop i).getD 2 0=(l'.drop i).getD 2 0)=q:=⟨_,rfl⟩
    rw[hq] at hnt;have HQ3:=Lib.hid hq;simp only[getD_drop] at HQ3;clear hq;generalize (l.drop i).getD 0 0=e0 at *;generalize (l.drop i).getD 1 0=e1 at *;generalize (l.drop i).getD 2 0=e2 at *;generalize (l'.drop i).getD 0 0=e0' at *;generalize (l'.drop i).getD 1 0=e1' at *;generalize (l'.drop i).getD 2 0=e2' at *;have hF1:=Lib.hid hF1;have hF2:=Lib.hid hF2;have hgt:Tryz.prog.eqGuardType Tryz.prog.depth 161=false:=by kernel_rfl
    clear hb hc hc' hbw hbw' hne
    cases q with
    |true=>
     have HE3:Hid (∀j,j<i+3→j<n→l.getD j 0=l'.getD j 0):=fun j hj hn=>by
      obtain⟨h0,h1,h2⟩:=of_decide_eq_true HQ3.out;by_cases hji:j<i
      ·exact HE.out j hji hn
      ·rcases (by omega:j=i+0∨j=i+1∨j=i+2) with rfl|rfl|rfl
       ·exact h0
       ·exact h1
       ·exact h2
     go_wp2_with fail
     refine wp_region_quiet_below (by kernel_rfl) (by kernel_rfl) ?_
     repeat (any_goals (first|go_big_quiet_step ((first|(go_at_call 167;with_reducible exact Calls.regrown_of (hF1.out _ _))|(go_at_call 167;with_reducible exact Calls.regrown_of (hF2.out _ _))))|quiet_step ((first|(go_at_call 167;with_reducible exact Calls.regrown_of (hF1.out _ _))|(go_at_call 167;with_reducible exact Calls.regrown_of (hF2.out _ _))))))
     refine wpQuiet_nil ?_;intro _ hw';obtain⟨⟨dq2,osq2⟩,hw''⟩:=hw';subst hw'';go_wp2_with fail
     refine⟨⟨i+3,by omega,by omega,by go_num,bnext HB.out (below_regrown _ _ _),HE3.out⟩,by simp[intOf];omega⟩
    |false=>
     have HNO:Hid (decide (l=l')=false):=decide_eq_false (fun e=>of_decide_eq_false HQ3.out (by rw[e];exact⟨rfl,rfl,rfl⟩));go_wp2_with fail
     refine wp_region_quiet_below (by kernel_rfl) (by kernel_rfl) ?_
     repeat (any_goals (first|go_big_quiet_step ((first|(go_at_call 167;with_reducible exact Calls.regrown_of (hF1.out _ _))|(go_at_call 167;with_reducible exact Calls.regrown_of (hF2.out _ _))))|quiet_step ((first|(go_at_call 167;with_reducible exact Calls.regrown_of (hF1.out _ _))|(go_at_call 167;with_reducible exact Calls.regrown_of (hF2.out _ _))))))
     refine wpQuiet_nil ?_;intro _ hw';obtain⟨⟨dq2,osq2⟩,hw''⟩:=hw';subst hw'';go_wp2_with fail
     go_ret;exact⟨ret_b (by simpa using HNO.out),bnext HBW.out (bnext HB.out (below_regrown _ _ _))⟩
   ·have hnl:¬((i:Int)<n):=by omega
    have HQ2:Hid (decide (l=l')=true):=dec_yes (by rw[HL.out,HL'.out]) (fun j hj=>HE.out j (by rw[HL.out] at hj;omega) (by rw[HL.out] at hj;exact hj));clear hb;go_wp2_with fail
    go_ret;exact⟨ret_b HQ2.out.symm,bnext HBW.out HB.out⟩
set_option maxHeartbeats 1000000 in
theorem sEqI_any (w:World) (v v':Value) (l l':List Int) (h:Ints w v l) (h':Ints w v' l') :
  Calls Tryz.prog 58 #[v,v'] w (GaveBool w (decide (l=l'))):=by
 obtain⟨a,n,cap,rfl,hl,hn,hm,hcell⟩:=h.cases;obtain⟨a',n',cap',rfl,hl',hn',hm',hcell'⟩:=h'.cases;unfold maxLen at hm hm';have HC:=Lib.hid hcell;have HC':=Lib.hid hcell';have HL:=Lib.hid hl;have HL':=Lib.hid hl';clear h h' hcell hcell' hl hl';by_cases hne:n=n'
 ·subst hne;go_enter Tryz.func58,Tryz.ntmps58
  go_wp2_with fail
  go_loopw [13] (fun iv wr=>∃i:Nat,i≤n∧iv=.int .i64 i∧Below w.heap.size w wr∧Hid (∀j,j<i→l.getD j 0=l'.getD j 0)) (fun iv _=>n-(intOf iv).toNat)
  case atStart=>exact⟨0,by omega,rfl,Below.refl _ _,fun j hj=>by omega⟩
  case round=>
   obtain⟨i,hi,rfl,hb,HE⟩:=hrel;have HB:=Lib.hid hb;by_cases hlt:i<n
   ·obtain⟨b,off,rfl,hbw,hc⟩:=HC.out (by omega);obtain⟨b',off',rfl,hbw',hc'⟩:=HC'.out (by omega);have c1:=cellk hb (hc i hlt);have c2:=cellk hb (hc' i hlt);have hi0:(0:Int)≤i:=by omega
    have hi1:(i:Int)<n:=by omega
    clear hb hc hc' hbw hbw';by_cases heq:l.getD i 0=l'.getD i 0
    ·have HQ:=Lib.hid (fun j (e:j=i)=>(by rw[e];exact heq:l.getD j 0=l'.getD j 0));rw[←heq] at c2;clear heq;generalize l.getD i 0=x at *;go_wp2_with fail
     go_quiet (fail)
     go_wp2_with fail
     refine⟨⟨i+1,by omega,by simp,bnext HB.out (drewN_below _ _),fun j hj=>?_⟩,by simp[intOf];omega⟩;rcases Nat.lt_or_ge j i with h|h
     ·exact HE.out j h
     ·exact HQ.out j (by omega)
    ·have HQ:=Lib.hid (dec_no i (by rw[HL.out];exact hlt) heq);have q:(l.getD i 0 != l'.getD i 0)=true:=bne_iff_ne.2 heq;clear heq;generalize l.getD i 0=x at *;generalize l'.getD i 0=y at *;go_wp2_with fail
     go_quiet (fail)
     go_wp2_with fail
     go_ret;exact⟨ret_b HQ.out.symm,bnext HB.out (drewN_below _ _)⟩
   ·obtain rfl:i=n:=by omega
    have HQ:=Lib.hid (dec_yes (l:=l) (l':=l') (by rw[HL.out,HL'.out]) (fun j hj=>HE.out j (by rw[←HL.out];exact hj)));clear hb;go_wp2_with fail
    go_ret;exact⟨ret_b HQ.out.symm,HB.out⟩
 ·have HQ:=Lib.hid (dec_len (l:=l) (l':=l') (by rw[HL.out,HL'.out];exact hne));have q:((n:Int) != n')=true:=by simp;omega
  clear hne;go_enter Tryz.func58,Tryz.ntmps58
  go_wp2_with fail
  go_ret;exact⟨ret_b HQ.out.symm,Below.refl _ _⟩
end Go.Proofs.YtpedpbbiamhgdaaGreatDoor
