import Derived.Test.YtpedpbbiamhgdaaGreatDoorLawK
import Derived.WalkSmall
import Derived.BigQuiet
import Derived.Test.YtpedpbbiamhgdaaGreatDoorAtomK
namespace Go.Proofs.YtpedpbbiamhgdaaGreatDoor
open Go.RowKit
set_option linter.unusedVariables false
theorem i64_and255 (n:Int):bits .and .i64 n 255=n % 256:=by
 have h255:(BitVec.ofInt 64 255).toNat=2 ^ 8-1:=by decide
 have key:(BitVec.ofInt 64 n &&& BitVec.ofInt 64 255).toNat=(n % ((2 ^ 64:Nat):Int)).toNat % 2 ^ 8:=by
  rw[BitVec.toNat_and,BitVec.toNat_ofInt,h255,Nat.and_two_pow_sub_one_eq_mod]
 show IntKind.i64.wrap ((BitVec.ofInt 64 n &&& BitVec.ofInt 64 255).toNat:Nat)=n % 256;rw[key,IntKind.wrap_i64];omega
def Code (w:World) (S:Value) (len cb:Nat):Prop:=
 (∃a cap,S=.slice a 0 cap∧len=0)∨∃b off cap,S=.slice (some ⟨b,off,none⟩) len cap∧len≤cap∧len≤maxLen∧b≠cb∧b<w.heap.size∧∀j,j<len→∃z:Int,0≤z∧z<256∧w.cell? ⟨b,off+j,none⟩=some (.int .u8 z)
def Cur (w:World) (S:Value) (len cb:Nat):Prop:=
 ∃i:Nat,∃h:Int,i≤len∧w.heap[cb]?=some (.cells #[S,.int .i64 i,.int .i64 h] 130 (0,0))
theorem cur_facts {w:World} {cb:Nat} {S:Value} {i h:Int} (hcb:w.heap[cb]?=some (.cells #[S,.int .i64 i,.int .i64 h] 130 (0,0))) :
  w.cell? ⟨cb,0,none⟩=some S∧w.cell? ⟨cb,1,none⟩=some (.int .i64 i)∧w.cell? ⟨cb,2,none⟩=some (.int .i64 h)∧∀j,w.frozen? ⟨cb,j,none⟩=false:=
 ⟨by rw[cell_of_row w cb 0 _ _ _ hcb];rfl,by rw[cell_of_row w cb 1 _ _ _ hcb];rfl,by rw[cell_of_row w cb 2 _ _ _ hcb];rfl,fun j=>frozen_of_row w cb j _ _ hcb⟩
theorem cur_h {w:World} {cb:Nat} {S:Value} {i h:Int} (hcb:w.heap[cb]?=some (.cells #[S,.int .i64 i,.int .i64 h] 130 (0,0))) (u:Int) :
  (w.setCell ⟨cb,2,none⟩ (.int .i64 u)).heap[cb]?=some (.cells #[S,.int .i64 i,.int .i64 u] 130 (0,0)):=by
 rw[heap_setCell_same w cb 2 _ _ _ hcb];rfl
theorem cur_i {w:World} {cb:Nat} {S:Value} {i h:Int} (hcb:w.heap[cb]?=some (.cells #[S,.int .i64 i,.int .i64 h] 130 (0,0))) (u:Int) :
  (w.setCell ⟨cb,1,none⟩ (.int .i64 u)).heap[cb]?=some (.cells #[S,.int .i64 u,.int .i64 h] 130 (0,0)):=by
 rw[heap_setCell_same w cb 1 _ _ _ hcb];rfl
theorem grownBy_set (w:World) (cb j:Nat) (v:Value):w.grownBy (w.setCell ⟨cb,j,none⟩ v) (some cb):=
 ⟨rfl,rfl,rfl,by simp,fun k _ hk=>heap_setCell_other w ⟨cb,j,none⟩ k v (fun e=>hk (by simp[e]))⟩
theorem grownBy_trans {a b c:World} {r:Option Nat} (h:a.grownBy b r) (k:b.grownBy c r):a.grownBy c r:=
 ⟨k.os.trans h.os,k.tape.trans h.tape,k.output.trans h.output,Nat.le_trans h.size k.size,fun j hj hr=>(k.block j (Nat.lt_of_lt_of_le hj h.size) hr).trans (h.block j hj hr)⟩
theorem grownBy_drewN (w:World) (n:Nat) (r:Option Nat):w.grownBy (w.drewN n) r:=⟨rfl,rfl,rfl,Nat.le_refl _,fun _ _ _=>rfl⟩
def Drawn (w:World) (S:Value) (len cb:Nat) (bd:Int) (e:Ending) (w':World):Prop:=
 ∃x:Int,0≤x∧x≤bd∧e=.returned (.int .i64 x)∧Cur w' S len cb∧w.grownBy w' (some cb)
set_option maxRecDepth 100000 in
set_option maxHeartbeats 2000000 in
theorem l1Byte_some (w:World) (b off len cap cb i:Nat) (h:Int) (hi:i≤len) (hlm:len≤maxLen) (hcb:w.heap[cb]?=some (.cells #[.slice (some ⟨b,off,none⟩) len cap,.int .i64 i,.int .i64 h] 130 (0,0))) (hne:b≠cb) (hlc:len≤cap) (hz:i<len→∃z:Int,0≤z∧z<256∧w.cell? ⟨b,off+i,none⟩=some (.int .u8 z)) :
  Calls Tryz.prog 149 #[.pointer (some ⟨cb,0,none⟩)] w (Drawn w (.slice (some ⟨b,off,none⟩) len cap) len cb 255):=by
 obtain⟨c0,c1,c2,f0⟩:=cur_facts hcb;have f2:=f0 2;clear f0;have hk2:=Lib.hid (fun u=>cur_h hcb u);have hg2:=Lib.hid (fun u=>grownBy_set w cb 2 (.int .i64 u));clear hcb;unfold maxLen at hlm
 have hcz:i<len→∃z:Int,0≤z∧z<256∧∀u,(w.setCell ⟨cb,2,none⟩ (.int .i64 u)).cell? ⟨b,off+i,none⟩=some (.int .u8 z):=fun hlt=>by
  obtain⟨z,z0,z1,hz⟩:=hz hlt;refine⟨z,z0,z1,fun u=>?_⟩;rw[World.cell?_setCell_other _ _ _ _ (by simp)];exact hz
 have HCZ:=Lib.hid hcz;clear hcz hz;go_enter Tryz.func149,Tryz.ntmps149
 go_wp2_with fail
 generalize wrap64 (wrap64 (h*6364136223846793005)+1442695040888963407)=h' at *;have hb1:=hk2.out h';have hg1:=hg2.out h'
 have hz1:Hid (i<len→∃z:Int,0≤z∧z<256∧(w.setCell ⟨cb,2,none⟩ (.int .i64 h')).cell? ⟨b,off+i,none⟩=some (.int .u8 z)):=fun hlt=>by
  obtain⟨z,z0,z1,hz⟩:=HCZ.out hlt;exact⟨z,z0,z1,hz h'⟩
 clear c0 c1 c2 f2 hk2 hg2 HCZ;generalize w.setCell ⟨cb,2,none⟩ (.int .i64 h')=w1 at *;have HG1:=Lib.hid hg1;obtain⟨c0,c1,c2,f0⟩:=cur_facts hb1;have f1:=f0 1;have hk1:=Lib.hid (fun u=>cur_i hb1 u);have HB1:=Lib.hid hb1;clear f0 hg1 hb1;by_cases hlt:i<len
 ·obtain⟨z,z0,z1,hcz⟩:=hz1.out hlt;have hq1:(0:Int)≤i:=by omega
  have hq2:(i:Int)<len:=by omega
  clear hz1
  go_quiet (fail)
  generalize bits BinOp.and IntKind.i64 (bits BinOp.xor IntKind.i64 (h' / 8589934592) (h' / 35184372088832)) 255=x0;go_wp2_with fail
  go_quiet (fail)
  go_wp2_with fail
  go_quiet (fail)
  go_wp2_with fail
  go_ret;refine⟨_,?_,?_,rfl,⟨i+1,h',by omega,hk1.out ((i:Int)+1)⟩,grownBy_trans HG1.out (grownBy_trans (grownBy_drewN w1 _ _) (grownBy_set _ cb 1 _))⟩
  ·rw[i64_and255];omega
  ·rw[i64_and255];omega
 ·have hq2:¬(i:Int)<len:=by omega
  clear hz1
  go_quiet (fail)
  have hx0:0≤bits BinOp.and IntKind.i64 (bits BinOp.xor IntKind.i64 (h' / 8589934592) (h' / 35184372088832)) 255∧bits BinOp.and IntKind.i64 (bits BinOp.xor IntKind.i64 (h' / 8589934592) (h' / 35184372088832)) 255≤255:=by
   rw[i64_and255];omega
  generalize bits BinOp.and IntKind.i64 (bits BinOp.xor IntKind.i64 (h' / 8589934592) (h' / 35184372088832)) 255=x0 at *;go_wp2_with fail
  go_quiet (fail)
  go_wp2_with fail
  go_ret;exact⟨_,hx0.1,hx0.2,rfl,⟨i,h',hi,HB1.out⟩,grownBy_trans HG1.out (grownBy_trans (grownBy_drewN w1 _ _) (grownBy_drewN _ _ _))⟩
set_option maxRecDepth 100000 in
set_option maxHeartbeats 2000000 in
theorem l1Byte_nil (a:Option Addr) (cap:Nat) (w:World) (cb i:Nat) (h:Int) (hcb:w.heap[cb]?=some (.cells #[.slice a 0 cap,.int .i64 i,.int .i64 h] 130 (0,0))) (hi:i≤0) :
  Calls Tryz.prog 149 #[.pointer (some ⟨cb,0,none⟩)] w (Drawn w (.slice a 0 cap) 0 cb 255):=by
 obtain rfl:i=0:=by omega
 obtain⟨c0,c1,c2,f0⟩:=cur_facts hcb;have f2:=f0 2;clear f0;have hk2:=Lib.hid (fun u=>cur_h hcb u);have hg2:=Lib.hid (fun u=>grownBy_set w cb 2 (.int .i64 u));clear hcb;go_enter Tryz.func149,Tryz.ntmps149
 go_wp2_with fail
 generalize wrap64 (wrap64 (h*6364136223846793005)+1442695040888963407)=h' at *;have hb1:=hk2.out h';have hg1:=hg2.out h';clear c0 c1 c2 f2 hk2 hg2;generalize w.setCell ⟨cb,2,none⟩ (.int .i64 h')=w1 at *;have HG1:=Lib.hid hg1;obtain⟨c0,c1,c2,f0⟩:=cur_facts hb1;have HB1:=Lib.hid hb1;clear f0 hg1 hb1
 go_quiet (fail)
 have hx0:0≤bits BinOp.and IntKind.i64 (bits BinOp.xor IntKind.i64 (h' / 8589934592) (h' / 35184372088832)) 255∧bits BinOp.and IntKind.i64 (bits BinOp.xor IntKind.i64 (h' / 8589934592) (h' / 35184372088832)) 255≤255:=by
  rw[i64_and255];omega
 generalize bits BinOp.and IntKind.i64 (bits BinOp.xor IntKind.i64 (h' / 8589934592) (h' / 35184372088832)) 255=x0 at *;go_wp2_with fail
 go_quiet (fail)
 go_wp2_with fail
 go_ret;exact⟨_,hx0.1,hx0.2,rfl,⟨0,h',by omega,HB1.out⟩,grownBy_trans HG1.out (grownBy_trans (grownBy_drewN w1 _ _) (grownBy_drewN _ _ _))⟩
def St (w:World) (S:Value) (len cb:Nat):Prop:=Code w S len cb∧Cur w S len cb
theorem Code.grown {w w':World} {S:Value} {len cb:Nat} (h:Code w S len cb) (hg:w.grownBy w' (some cb)):Code w' S len cb:=by
 rcases h with h|⟨b,off,cap,hS,h1,h2,hne,hb,hc⟩
 ·exact .inl h
 ·refine .inr ⟨b,off,cap,hS,h1,h2,hne,Nat.lt_of_lt_of_le hb hg.size,fun j hj=>?_⟩;obtain⟨z,z0,z1,hz⟩:=hc j hj;exact⟨z,z0,z1,hg.cell hz (by simp;exact hne)⟩
theorem St.next {w w':World} {S:Value} {len cb:Nat} (h:St w S len cb) (hc:Cur w' S len cb) (hg:w.grownBy w' (some cb)):St w' S len cb:=⟨h.1.grown hg,hc⟩
theorem l1Byte_any (w:World) (S:Value) (len cb:Nat) (h:St w S len cb) :
  Calls Tryz.prog 149 #[.pointer (some ⟨cb,0,none⟩)] w (Drawn w S len cb 255):=by
 obtain⟨hC,i,h,hi,hcb⟩:=h;rcases hC with⟨a,cap,rfl,rfl⟩|⟨b,off,cap,rfl,h1,h2,hne,hb,hc⟩
 ·exact l1Byte_nil a cap w cb i h hcb hi
 ·exact l1Byte_some w b off len cap cb i h hi h2 hcb hne h1 (fun hlt=>hc i hlt)
set_option maxRecDepth 100000 in
set_option maxHeartbeats 2000000 in
theorem l1Below_small (n:Int) (w:World) (S:Value) (len cb:Nat) (h:St w S len cb) (h0:1≤n) (h1:n≤256) :
  Calls Tryz.prog 102 #[.pointer (some ⟨cb,0,none⟩),.int .i64 n] w (Drawn w S len cb (n-1)):=by
 have hc:=Lib.hid (l1Byte_any w S len cb h);clear h;go_enter Tryz.func102,Tryz.ntmps102
 go_wp2_with fail
 refine hc.out.mono ?_;rintro e w1 ⟨x,hx0,hx1,rfl,hcur,hg⟩;have HC:=Lib.hid hcur;have HG:=Lib.hid hg;have hn:(n==0)=false:=by simp;omega
 clear hcur hg;go_wp2_with fail
 go_ret;exact⟨x % n,Int.emod_nonneg _ (by omega),by have:=Int.emod_lt_of_pos x (show 0<n by omega);omega,rfl,HC.out,HG.out⟩
set_option maxRecDepth 100000 in
set_option maxHeartbeats 4000000 in
theorem l1Below_big (n:Int) (w:World) (S:Value) (len cb:Nat) (h:St w S len cb) (h0:256<n) (h1:n≤4611686018427387904) :
  Calls Tryz.prog 102 #[.pointer (some ⟨cb,0,none⟩),.int .i64 n] w (Drawn w S len cb (n-1)):=by
 have hc:=Lib.hid (fun w h=>l1Byte_any w S len cb h);have HS:=Lib.hid h;have hn:(n==0)=false:=by simp;omega
 have H1:=Lib.hid h1;clear h h1;go_enter Tryz.func102,Tryz.ntmps102
 go_wp2_with fail
 refine (hc.out _ HS.out).mono ?_;rintro e w1 ⟨x,hx0,hx1,rfl,hcur,hg⟩;have HC1:=Lib.hid (HS.out.next hcur hg);have HG1:=Lib.hid hg;clear hcur hg;go_wp2_with fail
 refine (hc.out _ HC1.out).mono ?_;rintro e w2 ⟨y,hy0,hy1,rfl,hcur,hg⟩;have HC2:=Lib.hid (HC1.out.next hcur hg);have HG2:=Lib.hid (grownBy_trans HG1.out hg);clear hcur hg;go_wp2_with fail
 refine (hc.out _ HC2.out).mono ?_;rintro e w3 ⟨z,hz0,hz1,rfl,hcur,hg⟩;have HC3:=Lib.hid (HC2.out.next hcur hg);have HG3:=Lib.hid (grownBy_trans HG2.out hg);clear hcur hg;go_wp2_with fail
 refine (hc.out _ HC3.out).mono ?_;rintro e w4 ⟨u,hu0,hu1,rfl,hcur,hg⟩;have HC4:=Lib.hid (HC3.out.next hcur hg);have HG4:=Lib.hid (grownBy_trans HG3.out hg);clear hcur hg;go_wp2_with fail
 go_ret;refine⟨(x*16777216+y*65536+z*256+u) % n,Int.emod_nonneg _ (by omega),?_,rfl,HC4.out.2,HG4.out⟩;have:=Int.emod_lt_of_pos (x*16777216+y*65536+z*256+u) (show 0<n by omega);omega
theorem l1Below_any (n:Int) (w:World) (S:Value) (len cb:Nat) (h:St w S len cb) (h0:1≤n) (h1:n≤4611686018427387904) :
  Calls Tryz.prog 102 #[.pointer (some ⟨cb,0,none⟩),.int .i64 n] w (Drawn w S len cb (n-1)):=by
 by_cases hs:n≤256
 ·exact l1Below_small n w S len cb h h0 hs
 ·exact l1Below_big n w S len cb h (by omega) h1
def DrawnI (w:World) (S:Value) (len cb:Nat) (e:Ending) (w':World):Prop:=
 ∃x:Int,-9223372036854775808≤x∧x≤9223372036854775807∧e=.returned (.int .i64 x)∧Cur w' S len cb∧w.grownBy w' (some cb)
set_option maxRecDepth 100000 in
set_option maxHeartbeats 2000000 in
theorem l1PickInt_any (g n:Nat) (xs:List Int) (w:World) (S:Value) (len cb:Nat) (h:St w S len cb) (hn0:1≤n) (hn1:n≤256) (hg:g≠cb) (hx:xs.length=n)
  (hc:w.heap[g]?=some (.cells (xs.map (Value.int .i64)).toArray 3 (0,0))) (hr:∀x∈xs,-9223372036854775808≤x∧x≤9223372036854775807) :
  Calls Tryz.prog 127 #[.pointer (some ⟨cb,0,none⟩),.slice (some ⟨g,0,none⟩) n n] w (DrawnI w S len cb):=by
 have hb:=Lib.hid (l1Below_small (n:Int) w S len cb h (by omega) (by omega));have HS:=Lib.hid h;have HR:=Lib.hid hr;have HX:=Lib.hid hx;have HC:=Lib.hid hc;clear h hr hx hc;go_enter Tryz.func127,Tryz.ntmps127
 go_wp2_with fail
 refine hb.out.mono ?_;rintro e w1 ⟨x,hx0,hx1,rfl,hcur,hg1⟩;obtain⟨x,rfl⟩:=Int.eq_ofNat_of_zero_le hx0;have hxn:x<n:=by omega
 have hxl:x<xs.length:=by rw[HX.out];exact hxn
 have hblk:w1.heap[g]?=some (.cells (xs.map (Value.int .i64)).toArray 3 (0,0)):=by
  rw[hg1.block g (Array.getElem?_eq_some_iff.1 HC.out).1 (by simp;exact hg)];exact HC.out
 have hcell:w1.cell? ⟨g,x,none⟩=some (.int .i64 (xs.getD x 0)):=by
  rw[cell_of_row w1 g x _ _ _ hblk];simp[List.getD,List.getElem?_eq_getElem hxl]
 have hmem:xs.getD x 0∈xs:=by
  rw[List.getD,List.getElem?_eq_getElem hxl];exact List.getElem_mem hxl
 have HM:=Lib.hid (HR.out _ hmem);have HCU:=Lib.hid hcur;have HG1:=Lib.hid hg1;clear hcur hg1 hblk hmem hxl;generalize xs.getD x 0=y at *;go_wp2_with fail
 go_ret;exact⟨y,HM.out.1,HM.out.2,rfl,HCU.out,HG1.out⟩
theorem St.cb_lt {w:World} {S:Value} {len cb:Nat} (h:St w S len cb):cb<w.heap.size:=by
 obtain⟨_,i,hh,_,hcb⟩:=h;exact (Array.getElem?_eq_some_iff.1 hcb).1
theorem St.alloc {w:World} {S:Value} {len cb:Nat} (h:St w S len cb) (o:Obj):St (w.alloc o) S len cb:=by
 have hlt:=h.cb_lt;have hg:w.grownBy (w.alloc o) (some cb):=World.grownBy_alloc w o _;refine⟨h.1.grown hg,?_⟩;obtain⟨_,i,hh,hi,hcb⟩:=h;exact⟨i,hh,hi,by rw[Below.heap_alloc w o cb hlt];exact hcb⟩
def Arg (w:World) (S:Value) (len:Nat):Prop:=
 (∃a cap,S=.slice a 0 cap∧len=0)∨∃b off cap,S=.slice (some ⟨b,off,none⟩) len cap∧len≤cap∧len≤maxLen∧b<w.heap.size∧∀j,j<len→∃z:Int,0≤z∧z<256∧w.cell? ⟨b,off+j,none⟩=some (.int .u8 z)
theorem Arg.below {w w':World} {S:Value} {len:Nat} (h:Arg w S len) (hb:Below w.heap.size w w'):Arg w' S len:=by
 rcases h with h|⟨b,off,cap,hS,h1,h2,hlt,hc⟩
 ·exact .inl h
 ·refine .inr ⟨b,off,cap,hS,h1,h2,Nat.lt_of_lt_of_le hlt hb.size,fun j hj=>?_⟩;obtain⟨z,z0,z1,hz⟩:=hc j hj;exact⟨z,z0,z1,by rw[hb.cell (p:=⟨b,off+j,none⟩) hlt];exact hz⟩
def NewCur (w:World) (S:Value) (len:Nat) (e:Ending) (w':World):Prop:=
 ∃cb,w.heap.size≤cb∧e=.returned (.pointer (some ⟨cb,0,none⟩))∧St w' S len cb∧Below w.heap.size w w'
theorem newCur {w:World} {S:Value} {len:Nat} (h:Arg w S len) (hv:Int):St (w.alloc (.cells #[S,.int .i64 0,.int .i64 hv] 130)) S len w.heap.size:=by
 refine⟨?_,0,hv,by omega,heap_alloc_new w _⟩;have hb:Below w.heap.size w (w.alloc (.cells #[S,.int .i64 0,.int .i64 hv] 130)):=(Below.refl _ _).alloc (Nat.le_refl _) _;rcases h.below hb with h|⟨b,off,cap,hS,h1,h2,hlt,hc⟩
 ·exact .inl h
 ·rcases h with⟨a',cap',rfl,hl0⟩|⟨b',off',cap',hS',_,_,hlt',_⟩
  ·exact .inl ⟨a',cap',rfl,hl0⟩
  ·have:b=b':=by rw[hS] at hS';cases hS';rfl
   exact .inr ⟨b,off,cap,hS,h1,h2,by omega,hlt,hc⟩
set_option maxRecDepth 100000 in
set_option maxHeartbeats 2000000 in
theorem l1New_some (w:World) (b off len cap:Nat) (hlc:len≤cap) (hlm:len≤maxLen) (hA:Arg w (.slice (some ⟨b,off,none⟩) len cap) len) (hc:∀j,j<len→∃z:Int,0≤z∧z<256∧w.cell? ⟨b,off+j,none⟩=some (.int .u8 z)) :
  Calls Tryz.prog 47 #[.slice (some ⟨b,off,none⟩) len cap] w (NewCur w (.slice (some ⟨b,off,none⟩) len cap) len):=by
 have HC:=Lib.hid hc;have HA:=Lib.hid hA;clear hc hA;unfold maxLen at hlm;go_enter Tryz.func47,Tryz.ntmps47
 go_wp2_with fail
 go_loop [3,4] (fun hs iv=>∃(i:Nat) (hv:Int),i≤len∧iv=.int .i64 i∧hs=.int .i64 hv) (fun _ iv=>len-(intOf iv).toNat)
 case atStart=>exact⟨0,_,by omega,rfl,rfl⟩
 case round=>
  obtain⟨i,hv,hi,rfl,rfl⟩:=hrel;by_cases hlt:i<len
  ·obtain⟨z,z0,z1,hz⟩:=HC.out i hlt;have hi0:(0:Int)≤i:=by omega
   have hi1:(i:Int)<len:=by omega
   by_cases h4:(i:Int)<4000
   ·go_wp2_with fail
    exact⟨⟨i+1,_,by omega,by simp,rfl⟩,by simp[intOf];omega⟩
   ·go_wp2_with fail
    go_ret;exact⟨w.heap.size,Nat.le_refl _,rfl,newCur HA.out hv,(Below.refl _ _).alloc (Nat.le_refl _) _⟩
  ·go_wp2_with fail
   go_ret;exact⟨w.heap.size,Nat.le_refl _,rfl,newCur HA.out hv,(Below.refl _ _).alloc (Nat.le_refl _) _⟩
set_option maxHeartbeats 1000000 in
theorem l1New_nil (a:Option Addr) (cap:Nat) (w:World) (hA:Arg w (.slice a 0 cap) 0) :
  Calls Tryz.prog 47 #[.slice a 0 cap] w (NewCur w (.slice a 0 cap) 0):=by
 have HA:=Lib.hid hA;clear hA;go_enter Tryz.func47,Tryz.ntmps47
 go_wp2_with fail
 refine wp_loop_rounds 1 ?_;rw[rounds_succ];go_wp2_with fail
 go_ret;exact⟨w.heap.size,Nat.le_refl _,rfl,newCur HA.out _,(Below.refl _ _).alloc (Nat.le_refl _) _⟩
theorem l1New_any (w:World) (S:Value) (len:Nat) (h:Arg w S len) :
  Calls Tryz.prog 47 #[S] w (NewCur w S len):=by
 rcases h with⟨a,cap,rfl,rfl⟩|⟨b,off,cap,rfl,h1,h2,h3,h4⟩
 ·exact l1New_nil a cap w (.inl ⟨a,cap,rfl,rfl⟩)
 ·exact l1New_some w b off len cap h1 h2 (.inr ⟨b,off,cap,rfl,h1,h2,h3,h4⟩) h4
end Go.Proofs.YtpedpbbiamhgdaaGreatDoor
namespace Go.Proofs.YtpedpbbiamhgdaaGreatDoor
open Go Go.RowKit
set_option linter.unusedVariables false
theorem info_intD:(Tryz.prog.info? 3).map (fun i=>(i.zero,i.size,i.bytes))=some (some (.int .i64 0),1,8):=by kernel_rfl
theorem virt (w:World) (B:Nat) (h:B≤w.heap.size):∃W:World,W.heap.size=B∧Below W.heap.size W w:=by
 refine⟨{ w with heap:=w.heap.extract 0 B },by simp;omega,rfl,rfl,rfl,by simp;omega,fun k hk=>?_⟩;simp at hk;simp[Array.getElem?_extract];omega
theorem OnlyAt.skip {bs bs':List Nat} {w0 w w':World} (h:OnlyAt bs w0 w) (k:OnlyAt bs' w w') (hb:∀b∈bs',b∈bs∨w0.heap.size≤b):OnlyAt bs w0 w':=
 ⟨k.os.trans h.os,k.tape.trans h.tape,k.output.trans h.output,Nat.le_trans h.size k.size,fun j hj hn=>by
  rw[k.block j (Nat.lt_of_lt_of_le hj h.size) (fun hm=>by rcases hb j hm with h1|h1<;>first|exact hn h1|omega)];exact h.block j hj hn⟩
theorem OnlyAt.grownBy {cb:Nat} {w w':World} (h:OnlyAt [cb] w w'):w.grownBy w' (some cb):=
 ⟨h.os,h.tape,h.output,h.size,fun k hk hr=>h.block k hk (fun hm=>by simp at hm;subst hm;exact hr rfl)⟩
theorem grownBy_only {cb:Nat} {w w':World} (h:w.grownBy w' (some cb)):OnlyAt [cb] w w':=
 ⟨h.os,h.tape,h.output,h.size,fun k hk hn=>h.block k hk (fun e=>by cases e;exact hn (by simp))⟩
theorem Cur.onlyAt {w w':World} {S:Value} {len cb:Nat} {bs:List Nat} (h:Cur w S len cb) (k:OnlyAt bs w w') (hn:cb∉bs):Cur w' S len cb:=by
 obtain⟨i,hh,hi,hc⟩:=h;exact⟨i,hh,hi,by rw[k.block cb (Array.getElem?_eq_some_iff.1 hc).1 hn];exact hc⟩
def DSt (w0 w:World) (S:Value) (len cb:Nat):Prop:=St w0 S len cb∧OnlyAt [cb] w0 w∧Cur w S len cb
theorem DSt.start {w:World} {S:Value} {len cb:Nat} (h:St w S len cb):DSt w w S len cb:=⟨h,OnlyAt.refl _ _,h.2⟩
theorem DSt.st {w0 w:World} {S:Value} {len cb:Nat} (h:DSt w0 w S len cb):St w S len cb:=h.1.next h.2.2 h.2.1.grownBy
theorem DSt.lt {w0 w:World} {S:Value} {len cb:Nat} (h:DSt w0 w S len cb):cb<w0.heap.size:=h.1.cb_lt
theorem DSt.draw {w0 w w':World} {S:Value} {len cb:Nat} (h:DSt w0 w S len cb) (hc:Cur w' S len cb) (hg:w.grownBy w' (some cb)):DSt w0 w' S len cb:=
 ⟨h.1,h.2.1.same (grownBy_only hg),hc⟩
theorem DSt.only {w0 w w':World} {S:Value} {len cb:Nat} {bs:List Nat} (h:DSt w0 w S len cb) (k:OnlyAt bs w w') (hb:∀b∈bs,w0.heap.size≤b):DSt w0 w' S len cb:=
 ⟨h.1,h.2.1.skip k (fun b hm=>.inr (hb b hm)),h.2.2.onlyAt k (fun hm=>by have:=hb _ hm;have:=h.lt;omega)⟩
theorem DSt.below {w0 w w':World} {S:Value} {len cb:Nat} (h:DSt w0 w S len cb) (hb:Below w.heap.size w w'):DSt w0 w' S len cb:=
 h.only (OnlyAt.ofBelow [] hb) (fun b hm=>by simp at hm)
theorem DSt.trans {w0 w1 w2:World} {S:Value} {len cb:Nat} (h:DSt w0 w1 S len cb) (k:DSt w1 w2 S len cb):DSt w0 w2 S len cb:=
 ⟨h.1,h.2.1.same k.2.1,k.2.2⟩
theorem DSt.size {w0 w:World} {S:Value} {len cb:Nat} (h:DSt w0 w S len cb):w0.heap.size≤w.heap.size:=h.2.1.size
theorem DSt.cell {w0 w:World} {S:Value} {len cb b o:Nat} {v:Value} (h:DSt w0 w S len cb) (hn:b≠cb) (hc:w0.cell? ⟨b,o,none⟩=some v):w.cell? ⟨b,o,none⟩=some v:=h.2.1.cell (by simpa using hn) hc
theorem DSt.frozen {w0 w:World} {S:Value} {len cb b o:Nat} (h:DSt w0 w S len cb) (hn:b≠cb) (hlt:b<w0.heap.size) (hc:w0.frozen? ⟨b,o,none⟩=false):w.frozen? ⟨b,o,none⟩=false:=h.2.1.frozen hlt (by simpa using hn) hc
def OwI (base:Nat) (w:World) (v:Value) (l:List Int):Prop:=w.ownsRow base 3 1 v l.length (l.map (Value.int .i64))∧base≤w.heap.size∧∀x∈l,inI x
theorem OwI.built {base:Nat} {w:World} {v:Value} {l:List Int} (h:OwI base w v l):∃W,W.heap.size=base∧Built .i64 3 W w v l:=by
 obtain⟨W,h1,h2⟩:=virt w base h.2.1;exact⟨W,h1,by rw[h1];exact h.1,h2⟩
theorem OwI.of {E0:Nat} {W w:World} {v:Value} {l:List Int} (h:Built .i64 3 W w v l) (hE:E0≤W.heap.size) (hi:∀x∈l,inI x):OwI E0 w v l:=by
 refine⟨⟨h.1.1,?_⟩,Nat.le_trans hE h.2.size,hi⟩;rcases h.1.2 with h4|⟨g,cap,cur,e,h4,h5⟩
 ·exact .inl h4
 ·exact .inr ⟨g,cap,cur,e,Nat.le_trans hE h4,h5⟩
theorem OwI.mono {B B':Nat} {w:World} {v:Value} {l:List Int} (h:OwI B w v l) (hB:B'≤B):OwI B' w v l:=by
 obtain⟨W,h1,h2⟩:=h.built;exact OwI.of h2 (by omega) h.2.2
theorem OwI.only {base:Nat} {w w':World} {v:Value} {l:List Int} {bs:List Nat} (h:OwI base w v l) (k:OnlyAt bs w w') (hn:∀b∈blk v,b∉bs):OwI base w' v l:=by
 refine⟨⟨h.1.1,?_⟩,Nat.le_trans h.2.1 k.size,h.2.2⟩;rcases h.1.2 with h4|⟨g,cap,cur,rfl,h4,hg,h5⟩
 ·exact .inl h4
 ·exact .inr ⟨g,cap,cur,rfl,h4,by rw[k.block g (Array.getElem?_eq_some_iff.1 hg).1 (hn g (by simp[blk]))];exact hg,h5⟩
theorem OwI.lo {base:Nat} {w:World} {v:Value} {l:List Int} (h:OwI base w v l):∀b∈blk v,base≤b∧b<w.heap.size:=by
 intro b hb;rcases h.1.2 with⟨rfl,_⟩|⟨g,cap,cur,rfl,h4,hg,_⟩
 ·simp[blk] at hb
 ·simp[blk] at hb;subst hb;exact⟨h4,(Array.getElem?_eq_some_iff.1 hg).1⟩
theorem OwI.below {base:Nat} {w w':World} {v:Value} {l:List Int} (h:OwI base w v l) (hb:Below w.heap.size w w'):OwI base w' v l:=h.only (OnlyAt.ofBelow [] hb) (fun b _ hm=>by simp at hm)
theorem OwI.draw {base:Nat} {w w':World} {v:Value} {l:List Int} {S:Value} {len cb:Nat} (h:OwI base w v l) (hlt:cb<base) (hd:DSt w w' S len cb):OwI base w' v l:=
 h.only hd.2.1 (fun b hb hm=>by simp at hm;have:=h.lo b hb;omega)
theorem OwI.owns {base:Nat} {w:World} {v:Value} {l:List Int} (h:OwI base w v l):∃bs,OInts w v l bs∧bs.Nodup∧∀b∈bs,base≤b∧b<w.heap.size:=by
 obtain⟨W,h1,h2⟩:=h.built;rw[←h1];exact OInts.ofBuilt h2 h.2.2
theorem OwI.ints {base:Nat} {w:World} {v:Value} {l:List Int} (h:OwI base w v l):Ints w v l:=by
 obtain⟨bs,h1,_⟩:=h.owns;exact h1.1
theorem OwI.nil (base:Nat) (w:World) (h:base≤w.heap.size):OwI base w (.slice none 0 0) []:=⟨World.ownsRow_nil _ _ _ _,h,fun x hx=>by simp at hx⟩
theorem OwI.lit (base:Nat) (w:World) (l:List Int) (h:base≤w.heap.size) (hm:l.length≤maxLen) (hi:∀x∈l,inI x):OwI base (w.alloc (.cells (l.map (Value.int .i64)).toArray 3)) (.slice (some ⟨w.heap.size,0,none⟩) l.length l.length) l:=by
 obtain⟨W,h1,h2⟩:=virt w base h;have:=BuiltC.lit 3 1 W w l.length (l.map (Value.int .i64)) hm (by simp) h2;exact OwI.of (W:=W) this (by omega) hi
theorem OwI.shape {base:Nat} {w:World} {v:Value} {l:List Int} (h:OwI base w v l):∃a c,v=.slice a l.length c:=by
 rcases h.1.2 with⟨rfl,h4⟩|⟨g,cap,cur,rfl,h4,hg,_⟩
 ·exact⟨none,0,by rw[h4]⟩
 ·exact⟨_,cap,rfl⟩
def DFs (base:Nat) (w:World) (v:Value) (l:List AtomD):Prop:=∃W bss,W.heap.size=base∧OutInv 127 W w v l bss
theorem OutInv.rebase {E:TypeId} {W W' w w':World} {v:Value} {l:List AtomD} {bss:List (List Nat)} {bs':List Nat} (h:OutInv E W w v l bss) (hW:W'.heap.size≤W.heap.size) (hb:Below W'.heap.size W' w') (ko:OnlyAt bs' w w') (hv:∀b∈blk v,b∉bs') (hn:∀b∈bss.flatten,b∉bs'):OutInv E W' w' v l bss:=by
 obtain⟨⟨cs,h1,h2,h3⟩,h6,h7⟩:=h;refine⟨⟨cs,⟨⟨h1.1.1,?_⟩,hb⟩,h2,fun j d hd=>?_⟩,h6,fun b hm=>⟨Nat.le_trans hW (h7 b hm).1,Nat.lt_of_lt_of_le (h7 b hm).2 ko.size⟩⟩
 ·rcases h1.1.2 with h4|⟨g,cap,cur,rfl,h4,hg,h5⟩
  ·exact .inl h4
  ·exact .inr ⟨g,cap,cur,rfl,Nat.le_trans hW h4,by rw[ko.block g (Array.getElem?_eq_some_iff.1 hg).1 (hv g (by simp[blk]))];exact hg,h5⟩
 ·obtain⟨a,n,c,e1,e2,e3,e4⟩:=h3 j d hd;exact⟨a,n,c,e1,e2,e3,e4.onlyAt ko (fun x hx=>hn x (getD_mem_flatten hx))⟩
theorem OutInv.blk_lo {E:TypeId} {W w:World} {v:Value} {l:List AtomD} {bss:List (List Nat)} (h:OutInv E W w v l bss):∀b∈blk v,W.heap.size≤b∧b<w.heap.size:=by
 obtain⟨⟨cs,h1,_⟩,_⟩:=h;intro b hb;rcases h1.form with⟨rfl,_⟩|⟨g,cap,rfl,_⟩
 ·simp[blk] at hb
 ·simp[blk] at hb;subst hb;exact h1.lt
theorem DFs.only {base base':Nat} {w w':World} {v:Value} {l:List AtomD} {bs:List Nat} (h:DFs base w v l) (hB:base'≤base) (k:OnlyAt bs w w') (hn:∀b∈bs,b<base):DFs base' w' v l:=by
 obtain⟨W,bss,h1,h2⟩:=h;have hs:=h2.below.size;have hs2:=k.size;obtain⟨W',k1,k2⟩:=virt w' base' (by omega);refine⟨W',bss,k1,h2.rebase (by omega) k2 k (fun b hb hm=>?_) (fun b hb hm=>?_)⟩
 ·have:=h2.blk_lo b hb;have:=hn b hm;omega
 ·have:=h2.2.2 b hb;have:=hn b hm;omega
theorem DFs.below {base:Nat} {w w':World} {v:Value} {l:List AtomD} (h:DFs base w v l) (hb:Below w.heap.size w w'):DFs base w' v l:=h.only (Nat.le_refl _) (OnlyAt.ofBelow [] hb) (fun b hm=>by simp at hm)
theorem DFs.mono {base base':Nat} {w:World} {v:Value} {l:List AtomD} (h:DFs base w v l) (hB:base'≤base):DFs base' w v l:=h.only hB (OnlyAt.refl [] w) (fun b hm=>by simp at hm)
theorem DFs.draw {base:Nat} {w w':World} {v:Value} {l:List AtomD} {S:Value} {len cb:Nat} (h:DFs base w v l) (hlt:cb<base) (hd:DSt w w' S len cb):DFs base w' v l:=
 h.only (Nat.le_refl _) hd.2.1 (fun b hm=>by simp at hm;omega)
theorem DFs.done {base:Nat} {w:World} {v:Value} {l:List AtomD} (h:DFs base w v l):∃bs,ROAtomS w v l bs∧bs.Nodup∧∀b∈bs,base≤b∧b<w.heap.size:=by
 obtain⟨W,bss,h1,h2⟩:=h;obtain⟨bs,h3,h4⟩:=h2.done;exact⟨bs,h3,h4.1,fun b hb=>by rw[←h1];exact h4.2 b hb⟩
theorem DFs.lit (base:Nat) (w:World) (h:base≤w.heap.size):DFs base (w.alloc (.cells #[] 127)) (.slice (some ⟨w.heap.size,0,none⟩) 0 0) []:=by
 obtain⟨W,h1,h2⟩:=virt w base h;exact⟨W,[],h1,OutInv.lit _ W w h2⟩
theorem DFs.app {base:Nat} {W w w3:World} {v v':Value} {l:List AtomD} {cs:List Value} {bss:List (List Nat)} {r:Int} {a:Option Addr} {n c:Nat} {li:List Int}
  (h:OutInv 127 W w v l bss) (h1:BuiltC 127 2 W w v l.length cs) (h2:Els w cs l bss) (ho:OwI base w (.slice a n c) li) (hv:∀b∈blk v,b<base) (hl:∀b∈bss.flatten,b<base) (hr:inI r)
  (h':BuiltC 127 2 W w3 v' (l.length+1) (cs++[.int .i64 r,.slice a n c])) (ko:OnlyAt (blk v) w w3) (hv':∀b∈blk v',b∈blk v∨w.heap.size≤b) (hB:W.heap.size≤base):DFs W.heap.size w3 v' (l++[(r,li)]):=by
 obtain⟨bs,ho1,ho2,ho3⟩:=ho.owns;obtain⟨_,h6,h7⟩:=h;have hs3:=ko.size;rw[List.nodup_append] at h6;obtain⟨n1,n2,n3⟩:=h6;have hbx:∀b∈bs,b∉blk v:=fun b hb hx=>by have:=hv b hx;have:=ho3 b hb;omega
 have hn:∀b∈bss.flatten,b∉blk v:=fun b hb hx=>n3 b hx b hb rfl
 have e:(bss++[bs]).flatten=bss.flatten++bs:=by simp
 refine⟨W,bss++[bs],rfl,BuiltA.app h1 h2 h' ko hn hr ho1 hbx,?_,?_⟩
 ·rw[e,List.nodup_append,List.nodup_append];refine⟨?_,⟨n2,ho2,fun x hx y hy e=>?_⟩,fun x hx y hy e=>?_⟩
  ·rcases h'.form with⟨rfl,_⟩|⟨g,cap,rfl,_,_⟩<;>simp[blk]
  ·have:=hl x hx;have:=ho3 y hy;omega
  ·subst e;rcases hv' x hx with hx|hx
   ·rcases List.mem_append.1 hy with hy|hy
    ·exact n3 x hx x hy rfl
    ·exact hbx x hy hx
   ·rcases List.mem_append.1 hy with hy|hy
    ·have:=(h7 x hy).2;omega
    ·have:=(ho3 x hy).2;omega
 ·intro b hb;rw[e] at hb;rcases List.mem_append.1 hb with hb|hb
  ·have:=h7 b hb;omega
  ·have:=ho3 b hb;omega
end Go.Proofs.YtpedpbbiamhgdaaGreatDoor
