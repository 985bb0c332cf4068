import Derived.Test.YtpedpbbiamhgdaaGreatDoorNearAll
import Derived.Deep.DeepCutAuto
import Derived.Deep.RegionHeld3
import Derived.Deep.RegionLaw
namespace Go.Proofs.YtpedpbbiamhgdaaGreatDoor
open Go Go.Sort Go.RowKit
set_option linter.unusedVariables false
theorem OwI.rebase7 {B B':Nat} {w:World} {v:Value} {l:List Int} (h:OwI B w v l) (hb:∀b∈blk v,B'≤b) (hw:B'≤w.heap.size):OwI B' w v l:=by
 refine⟨⟨h.1.1,?_⟩,hw,h.2.2⟩;rcases h.1.2 with h1|⟨g,cap,cur,rfl,h1,hg,h2⟩
 ·exact .inl h1
 ·exact .inr ⟨g,cap,cur,rfl,hb g (by simp[blk]),hg,h2⟩
def NearP (P:Nat→Prop) (w:World) (hv bv:Value) (d:QueryD):Prop:=∃base bs,OwI base w hv d.1∧FtA w bv d.2 bs∧(∀b∈bs,P b)∧(∀b∈blk hv,P b)∧∀b∈blk hv,b∉bs
theorem NearP.ofN {P:Nat→Prop} {base:Nat} {w:World} {hv bv:Value} {d:QueryD} (h:NearQ base w hv bv d) (hP:∀b,base≤b→b<w.heap.size→P b):NearP P w hv bv d:=by
 obtain⟨bs,h1,h2,h3,h4⟩:=h;exact⟨base,bs,h1,h2,fun b hb=>hP b (h3 b hb) (h2.1 b hb),fun b hb=>hP b (h1.lo b hb).1 (h1.lo b hb).2,h4⟩
theorem NearP.toN {P:Nat→Prop} {base:Nat} {w:World} {hv bv:Value} {d:QueryD} (h:NearP P w hv bv d) (hP:∀b,P b→base≤b) (hw:base≤w.heap.size):NearQ base w hv bv d:=by
 obtain⟨b0,bs,h1,h2,h3,h4,h5⟩:=h;exact⟨bs,h1.rebase7 (fun b hb=>hP b (h4 b hb)) hw,h2,fun b hb=>hP b (h3 b hb),h5⟩
theorem NearP.only {P:Nat→Prop} {w w':World} {hv bv:Value} {d:QueryD} {ds:List Nat} (h:NearP P w hv bv d) (ko:OnlyAt ds w w') (hn:∀b∈ds,¬P b):NearP P w' hv bv d:=by
 obtain⟨b0,bs,h1,h2,h3,h4,h5⟩:=h;exact⟨b0,bs,h1.only ko (fun b hb hm=>hn b hm (h4 b hb)),h2.only ko (fun b hb hm=>hn b hm (h3 b hb)),h3,h4,h5⟩
theorem NearP.mono {P P':Nat→Prop} {w:World} {hv bv:Value} {d:QueryD} (h:NearP P w hv bv d) (hP:∀b,P b→P' b):NearP P' w hv bv d:=by
 obtain⟨b0,bs,h1,h2,h3,h4,h5⟩:=h;exact⟨b0,bs,h1,h2,fun b hb=>hP b (h3 b hb),fun b hb=>hP b (h4 b hb),h5⟩
theorem NearP.rd {P:Nat→Prop} {w:World} {hv bv:Value} {d:QueryD} (h:NearP P w hv bv d):RdQuery w (.agg #[hv,bv]) d:=by
 obtain⟨b0,bs,h1,h2,_⟩:=h;obtain⟨a,n,c,e,h3⟩:=h2.rd;obtain⟨a',n',c',e'⟩:=h1.ints.shape;subst e;subst e';exact⟨_,_,_,_,_,_,rfl,h1.ints,h3⟩
theorem NearP.shape {P:Nat→Prop} {w:World} {hv bv:Value} {d:QueryD} (h:NearP P w hv bv d):∃a n c a' n' c',hv=.slice a n c∧bv=.slice a' n' c':=by
 obtain⟨a,n,c,a',n',c',e,_⟩:=h.rd
 cases e;exact⟨_,_,_,_,_,_,rfl,rfl⟩
theorem NearP.lenH {P:Nat→Prop} {w:World} {a:Option Addr} {n c:Nat} {bv:Value} {d:QueryD} (h:NearP P w (.slice a n c) bv d):d.1.length=n:=by
 obtain⟨b0,bs,h1,_⟩:=h;obtain⟨_,_,e⟩:=h1.shape
 cases e;rfl
theorem NearP.builtH {P:Nat→Prop} {w:World} {hv bv:Value} {d:QueryD} (h:NearP P w hv bv d):∃W,Below W.heap.size W w∧BuiltC 3 1 W w hv d.1.length (d.1.map (Value.int .i64))∧∀b∈blk hv,P b:=by
 obtain⟨b0,bs,h1,_,_,h4,_⟩:=h;obtain⟨W,_,hb⟩:=h1.built;exact⟨W,hb.2,hb,h4⟩
theorem NearP.appH {P:Nat→Prop} {w wa w':World} {a:Option Addr} {n c g' cap':Nat} {bv:Value} {d:QueryD} {y:Int} (h:NearP P w (.slice a n c) bv d) (hal:Below w.heap.size w wa) (ko:OnlyAt (blk (.slice a n c)) wa w')
  (hb:∃W:World,Below W.heap.size W w∧BuiltC 3 1 W w' (.slice (some ⟨g',0,none⟩) (d.1.length+1) cap') (d.1.length+1) (d.1.map (Value.int .i64)++[.int .i64 y])) (hn:d.1.length=n) (hy:inI y)
  (hbl:∀b∈blk (.slice (some ⟨g',0,none⟩) (n+1) cap'),b∈blk (.slice a n c)∨b=wa.heap.size) (hP:∀b,b=wa.heap.size→P b):NearP P w' (.slice (some ⟨g',0,none⟩) (n+1) cap') bv (d.1++[y],d.2):=by
 obtain⟨b0,bs,h1,h2,h3,h4,h5⟩:=h;obtain⟨W,hW,hb⟩:=hb;subst hn;have hd:∀b∈blk (.slice a d.1.length c),b∉bs:=h5;refine⟨W.heap.size,bs,OwI.of (Built.ofC hb) (Nat.le_refl _) (fun z hz=>(List.mem_append.1 hz).elim (h1.2.2 z) (fun hz=>by simp at hz;rw[hz];exact hy)),(h2.only (OnlyAt.ofBelow [] hal) (fun _ _ hm=>by simp at hm)).only ko (fun b hb hm=>hd b hm hb),h3,fun b hb=>?_,fun b hb=>?_⟩
 ·exact (hbl b hb).elim (fun h=>h4 b h) (fun h=>hP b h)
 ·rcases hbl b hb with h|h
  ·exact hd b h
  ·intro hm;have:=h2.1 b hm;have:=hal.size;omega
structure P7 (rs ra rb fs fa fb:Nat) (w:World) (sv hA bA hB bB:Value):Prop where
 s0:w.cell? ⟨fs,0,none⟩=some sv
 sf:w.frozen? ⟨fs,0,none⟩=false
 a0:w.cell? ⟨fa,0,none⟩=some hA
 a1:w.cell? ⟨fa,1,none⟩=some bA
 b0:w.cell? ⟨fb,0,none⟩=some hB
 b1:w.cell? ⟨fb,1,none⟩=some bB
 bf0:w.frozen? ⟨fb,0,none⟩=false
 bf1:w.frozen? ⟨fb,1,none⟩=false
 rs0:w.cell? ⟨rs,0,none⟩=some (.slice none 0 0)
 ra0:w.cell? ⟨ra,0,none⟩=some (.slice none 0 0)
 ra1:w.cell? ⟨ra,1,none⟩=some (.slice none 0 0)
 rb0:w.cell? ⟨rb,0,none⟩=some (.slice none 0 0)
 rb1:w.cell? ⟨rb,1,none⟩=some (.slice none 0 0)
 rf0:w.frozen? ⟨rs,0,none⟩=false
 rf1:w.frozen? ⟨ra,0,none⟩=false
 rf2:w.frozen? ⟨ra,1,none⟩=false
 rf3:w.frozen? ⟨rb,0,none⟩=false
 rf4:w.frozen? ⟨rb,1,none⟩=false
theorem P7.only {rs ra rb fs fa fb:Nat} {w w':World} {sv hA bA hB bB:Value} {ds:List Nat} (h:P7 rs ra rb fs fa fb w sv hA bA hB bB) (ko:OnlyAt ds w w') (hn:∀b∈ds,b≠rs∧b≠ra∧b≠rb∧b≠fs∧b≠fa∧b≠fb):P7 rs ra rb fs fa fb w' sv hA bA hB bB:=by
 have n1:rs∉ds:=fun hm=>(hn _ hm).1 rfl
 have n2:ra∉ds:=fun hm=>(hn _ hm).2.1 rfl
 have n3:rb∉ds:=fun hm=>(hn _ hm).2.2.1 rfl
 have n4:fs∉ds:=fun hm=>(hn _ hm).2.2.2.1 rfl
 have n5:fa∉ds:=fun hm=>(hn _ hm).2.2.2.2.1 rfl
 have n6:fb∉ds:=fun hm=>(hn _ hm).2.2.2.2.2 rfl
 have lt:∀{b o:Nat} {v:Value},w.cell? ⟨b,o,none⟩=some v→b<w.heap.size:=fun hc=>World.block_lt_of_cell? w _ hc
 exact⟨ko.cell n4 h.s0,ko.frozen (lt h.s0) n4 h.sf,ko.cell n5 h.a0,ko.cell n5 h.a1,ko.cell n6 h.b0,ko.cell n6 h.b1,ko.frozen (lt h.b0) n6 h.bf0,ko.frozen (lt h.b1) n6 h.bf1,
  ko.cell n1 h.rs0,ko.cell n2 h.ra0,ko.cell n2 h.ra1,ko.cell n3 h.rb0,ko.cell n3 h.rb1,ko.frozen (lt h.rs0) n1 h.rf0,ko.frozen (lt h.ra0) n2 h.rf1,ko.frozen (lt h.ra1) n2 h.rf2,ko.frozen (lt h.rb0) n3 h.rf3,ko.frozen (lt h.rb1) n3 h.rf4⟩
theorem P7.below {rs ra rb fs fa fb:Nat} {w w':World} {sv hA bA hB bB:Value} (h:P7 rs ra rb fs fa fb w sv hA bA hB bB) (hb:Below w.heap.size w w'):P7 rs ra rb fs fa fb w' sv hA bA hB bB:=h.only (OnlyAt.ofBelow [] hb) (fun b hm=>by simp at hm)
theorem cell_ne7 {w:World} {b b' o o':Nat} {u v:Value} (hn:b≠b') (h:w.cell? ⟨b,o,none⟩=some v):(w.setCell ⟨b',o',none⟩ u).cell? ⟨b,o,none⟩=some v:=by
 rw[World.cell?_setCell_other _ _ _ _ (fun e=>hn (by have:=congrArg Addr.block e;simp at this;omega))];exact h
theorem cell_no7 {w:World} {b o o':Nat} {u v:Value} (hn:o≠o') (h:w.cell? ⟨b,o,none⟩=some v):(w.setCell ⟨b,o',none⟩ u).cell? ⟨b,o,none⟩=some v:=by
 rw[World.cell?_setCell_other _ _ _ _ (fun e=>hn (by have:=congrArg Addr.off e;simp at this;omega))];exact h
theorem frz_set7 {w:World} {p q:Addr} {u:Value} (h:w.frozen? p=false):(w.setCell q u).frozen? p=false:=by rw[World.frozen?_setCell];exact h
theorem P7.setH {rs ra rb fs fa fb:Nat} {w:World} {sv hA bA hB bB:Value} (h:P7 rs ra rb fs fa fb w sv hA bA hB bB) (v:Value) (hn:rs≠fb∧ra≠fb∧rb≠fb∧fs≠fb∧fa≠fb):P7 rs ra rb fs fa fb (w.setCell ⟨fb,0,none⟩ v) sv hA bA v bB:=by
 obtain⟨n1,n2,n3,n4,n5⟩:=hn
 exact⟨cell_ne7 n4 h.s0,frz_set7 h.sf,cell_ne7 n5 h.a0,cell_ne7 n5 h.a1,World.cell?_setCell_same _ _ _ h.b0,cell_no7 (by omega) h.b1,frz_set7 h.bf0,frz_set7 h.bf1,
  cell_ne7 n1 h.rs0,cell_ne7 n2 h.ra0,cell_ne7 n2 h.ra1,cell_ne7 n3 h.rb0,cell_ne7 n3 h.rb1,frz_set7 h.rf0,frz_set7 h.rf1,frz_set7 h.rf2,frz_set7 h.rf3,frz_set7 h.rf4⟩
theorem P7.setB {rs ra rb fs fa fb:Nat} {w:World} {sv hA bA hB bB:Value} (h:P7 rs ra rb fs fa fb w sv hA bA hB bB) (v:Value) (hn:rs≠fb∧ra≠fb∧rb≠fb∧fs≠fb∧fa≠fb):P7 rs ra rb fs fa fb (w.setCell ⟨fb,1,none⟩ v) sv hA bA hB v:=by
 obtain⟨n1,n2,n3,n4,n5⟩:=hn
 exact⟨cell_ne7 n4 h.s0,frz_set7 h.sf,cell_ne7 n5 h.a0,cell_ne7 n5 h.a1,cell_no7 (by omega) h.b0,World.cell?_setCell_same _ _ _ h.b1,frz_set7 h.bf0,frz_set7 h.bf1,
  cell_ne7 n1 h.rs0,cell_ne7 n2 h.ra0,cell_ne7 n2 h.ra1,cell_ne7 n3 h.rb0,cell_ne7 n3 h.rb1,frz_set7 h.rf0,frz_set7 h.rf1,frz_set7 h.rf2,frz_set7 h.rf3,frz_set7 h.rf4⟩
theorem P7.setS {rs ra rb fs fa fb:Nat} {w:World} {sv hA bA hB bB:Value} (h:P7 rs ra rb fs fa fb w sv hA bA hB bB) (v:Value) (hn:rs≠fs∧ra≠fs∧rb≠fs∧fa≠fs∧fb≠fs):P7 rs ra rb fs fa fb (w.setCell ⟨fs,0,none⟩ v) v hA bA hB bB:=by
 obtain⟨n1,n2,n3,n4,n5⟩:=hn
 exact⟨World.cell?_setCell_same _ _ _ h.s0,frz_set7 h.sf,cell_ne7 n4 h.a0,cell_ne7 n4 h.a1,cell_ne7 n5 h.b0,cell_ne7 n5 h.b1,frz_set7 h.bf0,frz_set7 h.bf1,
  cell_ne7 n1 h.rs0,cell_ne7 n2 h.ra0,cell_ne7 n2 h.ra1,cell_ne7 n3 h.rb0,cell_ne7 n3 h.rb1,frz_set7 h.rf0,frz_set7 h.rf1,frz_set7 h.rf2,frz_set7 h.rf3,frz_set7 h.rf4⟩
def DrewP (w:World) (S:Value) (len cb:Nat) (e:Ending) (w':World):Prop:=
 ∃sv s h1 b1 d1 h2 b2 d2,e=.returned (.tuple #[.agg #[sv],.agg #[h1,b1],.agg #[h2,b2]])∧OwI w.heap.size w' sv s∧s.length≤5∧NearQ w.heap.size w' h1 b1 d1∧QBd 3 4 d1∧NearQ w.heap.size w' h2 b2 d2∧QBd 3 4 d2∧DSt w w' S len cb
structure Q7 (rs ra rb fs fa fb:Nat) (w:World) (x0 x1 x2 x3 x4 sv hA bA hB bB:Value):Prop where
 rs0:w.cell? ⟨rs,0,none⟩=some x0
 ra0:w.cell? ⟨ra,0,none⟩=some x1
 ra1:w.cell? ⟨ra,1,none⟩=some x2
 rb0:w.cell? ⟨rb,0,none⟩=some x3
 rb1:w.cell? ⟨rb,1,none⟩=some x4
 s0:w.cell? ⟨fs,0,none⟩=some sv
 a0:w.cell? ⟨fa,0,none⟩=some hA
 a1:w.cell? ⟨fa,1,none⟩=some bA
 b0:w.cell? ⟨fb,0,none⟩=some hB
 b1:w.cell? ⟨fb,1,none⟩=some bB
 rf0:w.frozen? ⟨rs,0,none⟩=false
 rf1:w.frozen? ⟨ra,0,none⟩=false
 rf2:w.frozen? ⟨ra,1,none⟩=false
 rf3:w.frozen? ⟨rb,0,none⟩=false
 rf4:w.frozen? ⟨rb,1,none⟩=false
theorem P7.q7 {rs ra rb fs fa fb:Nat} {w:World} {sv hA bA hB bB:Value} (h:P7 rs ra rb fs fa fb w sv hA bA hB bB):Q7 rs ra rb fs fa fb w (.slice none 0 0) (.slice none 0 0) (.slice none 0 0) (.slice none 0 0) (.slice none 0 0) sv hA bA hB bB:=
 ⟨h.rs0,h.ra0,h.ra1,h.rb0,h.rb1,h.s0,h.a0,h.a1,h.b0,h.b1,h.rf0,h.rf1,h.rf2,h.rf3,h.rf4⟩
theorem Q7.below {rs ra rb fs fa fb:Nat} {w w':World} {x0 x1 x2 x3 x4 sv hA bA hB bB:Value} (h:Q7 rs ra rb fs fa fb w x0 x1 x2 x3 x4 sv hA bA hB bB) (k:Below w.heap.size w w'):Q7 rs ra rb fs fa fb w' x0 x1 x2 x3 x4 sv hA bA hB bB:=
 ⟨cellk k h.rs0,cellk k h.ra0,cellk k h.ra1,cellk k h.rb0,cellk k h.rb1,cellk k h.s0,cellk k h.a0,cellk k h.a1,cellk k h.b0,cellk k h.b1,frok k h.rs0 h.rf0,frok k h.ra0 h.rf1,frok k h.ra1 h.rf2,frok k h.rb0 h.rf3,frok k h.rb1 h.rf4⟩
def Dif7 (rs ra rb fs fa fb:Nat):Prop:=rs≠ra∧rs≠rb∧ra≠rb∧(rs≠fs∧rs≠fa∧rs≠fb)∧(ra≠fs∧ra≠fa∧ra≠fb)∧(rb≠fs∧rb≠fa∧rb≠fb)
theorem Q7.setRs {rs ra rb fs fa fb:Nat} {w:World} {x0 x1 x2 x3 x4 sv hA bA hB bB:Value} (h:Q7 rs ra rb fs fa fb w x0 x1 x2 x3 x4 sv hA bA hB bB) (d:Dif7 rs ra rb fs fa fb) (y0:Value):Q7 rs ra rb fs fa fb (w.setCell ⟨rs,0,none⟩ y0) y0 x1 x2 x3 x4 sv hA bA hB bB:=by
 obtain⟨n1,n2,n3,⟨n4,n5,n6⟩,⟨n7,n8,n9⟩,⟨na,nb,nc⟩⟩:=d;refine⟨World.cell?_setCell_same _ _ _ (h.rs0),cell_ne7 (by omega) (h.ra0),cell_ne7 (by omega) (h.ra1),cell_ne7 (by omega) (h.rb0),cell_ne7 (by omega) (h.rb1),cell_ne7 (by omega) (h.s0),cell_ne7 (by omega) (h.a0),cell_ne7 (by omega) (h.a1),cell_ne7 (by omega) (h.b0),cell_ne7 (by omega) (h.b1),frz_set7 (h.rf0),frz_set7 (h.rf1),frz_set7 (h.rf2),frz_set7 (h.rf3),frz_set7 (h.rf4)⟩
theorem Q7.setRa {rs ra rb fs fa fb:Nat} {w:World} {x0 x1 x2 x3 x4 sv hA bA hB bB:Value} (h:Q7 rs ra rb fs fa fb w x0 x1 x2 x3 x4 sv hA bA hB bB) (d:Dif7 rs ra rb fs fa fb) (y0:Value) (y1:Value):Q7 rs ra rb fs fa fb ((w.setCell ⟨ra,0,none⟩ y0).setCell ⟨ra,1,none⟩ y1) x0 y0 y1 x3 x4 sv hA bA hB bB:=by
 obtain⟨n1,n2,n3,⟨n4,n5,n6⟩,⟨n7,n8,n9⟩,⟨na,nb,nc⟩⟩:=d;refine⟨cell_ne7 (by omega) (cell_ne7 (by omega) (h.rs0)),cell_no7 (by omega) (World.cell?_setCell_same _ _ _ (h.ra0)),World.cell?_setCell_same _ _ _ (cell_no7 (by omega) (h.ra1)),cell_ne7 (by omega) (cell_ne7 (by omega) (h.rb0)),cell_ne7 (by omega) (cell_ne7 (by omega) (h.rb1)),cell_ne7 (by omega) (cell_ne7 (by omega) (h.s0)),cell_ne7 (by omega) (cell_ne7 (by omega) (h.a0)),cell_ne7 (by omega) (cell_ne7 (by omega) (h.a1)),cell_ne7 (by omega) (cell_ne7 (by omega) (h.b0)),cell_ne7 (by omega) (cell_ne7 (by omega) (h.b1)),frz_set7 (frz_set7 (h.rf0)),frz_set7 (frz_set7 (h.rf1)),frz_set7 (frz_set7 (h.rf2)),frz_set7 (frz_set7 (h.rf3)),frz_set7 (frz_set7 (h.rf4))⟩
theorem Q7.setRb {rs ra rb fs fa fb:Nat} {w:World} {x0 x1 x2 x3 x4 sv hA bA hB bB:Value} (h:Q7 rs ra rb fs fa fb w x0 x1 x2 x3 x4 sv hA bA hB bB) (d:Dif7 rs ra rb fs fa fb) (y0:Value) (y1:Value):Q7 rs ra rb fs fa fb ((w.setCell ⟨rb,0,none⟩ y0).setCell ⟨rb,1,none⟩ y1) x0 x1 x2 y0 y1 sv hA bA hB bB:=by
 obtain⟨n1,n2,n3,⟨n4,n5,n6⟩,⟨n7,n8,n9⟩,⟨na,nb,nc⟩⟩:=d;refine⟨cell_ne7 (by omega) (cell_ne7 (by omega) (h.rs0)),cell_ne7 (by omega) (cell_ne7 (by omega) (h.ra0)),cell_ne7 (by omega) (cell_ne7 (by omega) (h.ra1)),cell_no7 (by omega) (World.cell?_setCell_same _ _ _ (h.rb0)),World.cell?_setCell_same _ _ _ (cell_no7 (by omega) (h.rb1)),cell_ne7 (by omega) (cell_ne7 (by omega) (h.s0)),cell_ne7 (by omega) (cell_ne7 (by omega) (h.a0)),cell_ne7 (by omega) (cell_ne7 (by omega) (h.a1)),cell_ne7 (by omega) (cell_ne7 (by omega) (h.b0)),cell_ne7 (by omega) (cell_ne7 (by omega) (h.b1)),frz_set7 (frz_set7 (h.rf0)),frz_set7 (frz_set7 (h.rf1)),frz_set7 (frz_set7 (h.rf2)),frz_set7 (frz_set7 (h.rf3)),frz_set7 (frz_set7 (h.rf4))⟩
set_option linter.unusedSimpArgs false
set_option maxRecDepth 100000 in
set_option maxHeartbeats 16000000 in
theorem l7Pair_any (w:World) (S:Value) (len cb:Nat) (h:St w S len cb) :
  Calls Tryz.prog 73 #[.pointer (some ⟨cb,0,none⟩)] w (DrewP w S len cb):=by
 have hbl:=Lib.hid (fun n w h h0 h1=>l1Below_any n w S len cb h h0 h1);have hon:=Lib.hid (fun n w h h0 h1=>l1Once_any n w S len cb h h0 h1);have hsc:=Lib.hid (fun w h=>l3SchemaB_any w S len cb h);have hqu:=Lib.hid (fun w base sv s h hv hc hs=>l4Query_any1 w S len cb base sv s h hv hc hs);have hne:=Lib.hid (fun w base sv s qh qb d h hv hc hs hq hd hl=>l4Near_any w S len cb base sv s qh qb d h hv hc hs hq hd hl);have h2a:=Lib.hid (fun w h=>l2Any_any w S len cb h);have hsa:=Lib.hid (fun w h=>l3Any_any w S len cb h);have HS:=Lib.hid h;have hcbw:=h.cb_lt;obtain⟨W3,hW3⟩:∃W3,W3=(((w.alloc (.cells #[.slice none 0 0] 26)).alloc (.cells #[.slice none 0 0,.slice none 0 0] 29)).alloc (.cells #[.slice none 0 0,.slice none 0 0] 29)):=⟨_,rfl⟩
 have hs3:W3.heap.size=w.heap.size+3:=by rw[hW3];simp
 have HBW:Hid (Below w.heap.size w W3):=by rw[hW3];exact Lib.hid ((((Below.refl _ _).alloc (Nat.le_refl _) _).alloc (by simp) _).alloc (by simp;omega) _)
 have K1:Hid (W3.cell? ⟨w.heap.size,0,none⟩=some (.slice none 0 0)):=by unfold Hid;rw[hW3];exact box1 w _ _ _ _ 0 _ rfl
 have K2:Hid (W3.cell? ⟨w.heap.size+1,0,none⟩=some (.slice none 0 0)∧W3.cell? ⟨w.heap.size+1,1,none⟩=some (.slice none 0 0)):=by unfold Hid;rw[hW3];exact⟨box2 w _ _ _ _ 0 _ rfl,box2 w _ _ _ _ 1 _ rfl⟩
 have K3:Hid (W3.cell? ⟨w.heap.size+1+1,0,none⟩=some (.slice none 0 0)∧W3.cell? ⟨w.heap.size+1+1,1,none⟩=some (.slice none 0 0)):=by unfold Hid;rw[hW3];exact⟨box3 w _ _ _ _ 0 _ rfl,box3 w _ _ _ _ 1 _ rfl⟩
 have F1:Hid (W3.frozen? ⟨w.heap.size,0,none⟩=false):=by
  unfold Hid;rw[hW3];have h1:=newFrzN w #[.slice none 0 0] 26 0;have c1:=newBox w #[.slice none 0 0] 26 0 _ rfl;have hb:=below_alloc (w.alloc (.cells #[.slice none 0 0] 26)) (.cells #[.slice none 0 0,.slice none 0 0] 29);exact frok (below_alloc _ _) (cellk hb c1) (frok hb c1 h1)
 have F2:Hid (W3.frozen? ⟨w.heap.size+1,0,none⟩=false∧W3.frozen? ⟨w.heap.size+1,1,none⟩=false):=by
  unfold Hid;rw[hW3];exact⟨frzN _ _ _ _ 0 _ rfl,frzN _ _ _ _ 1 _ rfl⟩
 have F3:Hid (W3.frozen? ⟨w.heap.size+1+1,0,none⟩=false∧W3.frozen? ⟨w.heap.size+1+1,1,none⟩=false):=by
  unfold Hid;rw[hW3];exact⟨frz3N _ _ _ _ _ 0,frz3N _ _ _ _ _ 1⟩
 have HD3:Hid (DSt w W3 S len cb):=Lib.hid ((DSt.start h).below HBW.out);clear h;go_enter Tryz.func73,Tryz.ntmps73
 go_wp2_with fail
 rw[←hW3];clear hW3;obtain⟨rs,hrs⟩:∃x,x=w.heap.size:=⟨_,rfl⟩
 obtain⟨ra,hra⟩:∃x,x=w.heap.size+1:=⟨_,rfl⟩
 obtain⟨rb,hrb⟩:∃x,x=w.heap.size+1+1:=⟨_,rfl⟩
 rw[←hrb] at K3 F3;rw[←hra] at K2 F2;rw[←hrs] at K1 F1;simp only[←hrb];simp only[←hra];simp only[←hrs];have HRS:=Lib.hid hrs;have HRA:=Lib.hid hra;have HRB:=Lib.hid hrb;clear hrs hra hrb;refine (hsc.out _ HD3.out.st).mono ?_;rintro e w1 ⟨xv,s,rfl,how,hsb,hd1⟩;obtain⟨xa,xc,rfl⟩:=how.shape;obtain⟨sn,hsn⟩:∃n,s.length=n:=⟨_,rfl⟩
 have HSN:=Lib.hid hsn;have HSB:=Lib.hid hsb;rw[hsn] at how ⊢;have hb1:=below_alloc w1 (.cells #[.slice xa sn xc] 26);have hz1:=hd1.size;have HX1:=Lib.hid (how.below hb1);have HD4:=Lib.hid ((HD3.out.trans hd1).below hb1);have HO4:Hid (OnlyAt [cb] W3 (w1.alloc (.cells #[.slice xa sn xc] 26))):=Lib.hid (hd1.2.1.same (OnlyAt.ofBelow _ hb1));have ks:(w1.alloc (.cells #[.slice xa sn xc] 26)).cell? ⟨w1.heap.size,0,none⟩=some (.slice xa sn xc):=newBox w1 #[.slice xa sn xc] _ 0 _ rfl;have kf:=newFrzN w1 #[.slice xa sn xc] 26 0;have hz4:(w1.alloc (.cells #[.slice xa sn xc] 26)).heap.size=w1.heap.size+1:=by simp
 have HXB:Hid (∀b∈blk (.slice xa sn xc),W3.heap.size≤b∧b<w1.heap.size):=Lib.hid how.lo;clear how hsb hsn hd1 hb1;go_wp2_with fail
 obtain⟨fs,hfs⟩:∃x,x=w1.heap.size:=⟨_,rfl⟩
 rw[←hfs] at ks kf HXB ⊢;have HFS:=Lib.hid hfs;clear hfs;generalize (w1.alloc (.cells #[.slice xa sn xc] 26))=w4 at *;refine (hqu.out w4 W3.heap.size _ s HD4.out.st HX1.out (by omega) HSB.out).mono ?_;rintro e w5 ⟨hv,bv,da,T,rfl,hoh,hab,ht0,ht1,hqb,hd5,hda1⟩;have hna:NearQ w4.heap.size w5 hv bv da:=NearQ.ofDrew hoh hab ht0
 obtain⟨aa,an,ac,ba,bn,bc,rfl,rfl⟩:∃a n c a' n' c',hv=.slice a n c∧bv=.slice a' n' c':=by
  obtain⟨a,n,c,a',n',c',e,_⟩:=hna.rd
  cases e;exact⟨_,_,_,_,_,_,rfl,rfl⟩
 have hz5:=hd5.size;have hb5:=below_alloc w5 (.cells #[.slice aa an ac,.slice ba bn bc] 29);have HNA5:=Lib.hid hna;have HNA:=Lib.hid (hna.below hb5);have HQA:=Lib.hid hqb;have HDA1:=Lib.hid hda1;have HD6:=Lib.hid ((HD4.out.trans hd5).below hb5);have HO6:Hid (OnlyAt [cb] W3 (w5.alloc (.cells #[.slice aa an ac,.slice ba bn bc] 29))):=Lib.hid ((HO4.out.same (hd5.2.1)).same (OnlyAt.ofBelow _ hb5));have HO56:Hid (OnlyAt [cb] w5 (w5.alloc (.cells #[.slice aa an ac,.slice ba bn bc] 29))):=Lib.hid (OnlyAt.ofBelow _ hb5);have HX6:=Lib.hid ((HX1.out.only hd5.2.1 (fun b hb hm=>by have:=HX1.out.lo b hb;simp at hm;omega)).below hb5);have hw4a:W3.heap.size≤fs:=by have:=HFS.out;omega
 have hw4b:fs<w4.heap.size:=by have:=HFS.out;omega
 have ks6:=cellk hb5 (hd5.cell (b:=fs) (by omega) ks);have kf6:=frok hb5 (hd5.cell (b:=fs) (by omega) ks) (hd5.frozen (b:=fs) (o:=0) (by omega) (by omega) kf);have ka0:(w5.alloc (.cells #[.slice aa an ac,.slice ba bn bc] 29)).cell? ⟨w5.heap.size,0,none⟩=some (.slice aa an ac):=newBox w5 #[.slice aa an ac,.slice ba bn bc] _ 0 _ rfl;have ka1:(w5.alloc (.cells #[.slice aa an ac,.slice ba bn bc] 29)).cell? ⟨w5.heap.size,1,none⟩=some (.slice ba bn bc):=newBox w5 #[.slice aa an ac,.slice ba bn bc] _ 1 _ rfl;have hz6:(w5.alloc (.cells #[.slice aa an ac,.slice ba bn bc] 29)).heap.size=w5.heap.size+1:=by simp
 clear hoh hab hna hqb hda1 hd5 hb5 ks kf ht0 ht1;go_wp2_with fail
 obtain⟨fa,hfa⟩:∃x,x=w5.heap.size:=⟨_,rfl⟩
 rw[←hfa] at ka0 ka1 ⊢;have HFA:=Lib.hid hfa;clear hfa;generalize (w5.alloc (.cells #[.slice aa an ac,.slice ba bn bc] 29))=w6 at *;refine (hne.out w6 W3.heap.size _ s _ _ da HD6.out.st HX6.out (by omega) HSB.out (HNA.out.mono (by omega)) ⟨HQA.out.1,by have:=HQA.out.2.1;omega,HQA.out.2.2⟩ HDA1.out).mono ?_;rintro e w7 ⟨hv,bv,db,rfl,hnb,hqb,hd7,hdb1⟩
 obtain⟨ya,yn,yc,za,zn,zc,rfl,rfl⟩:∃a n c a' n' c',hv=.slice a n c∧bv=.slice a' n' c':=by
  obtain⟨a,n,c,a',n',c',e,_⟩:=hnb.rd
  cases e;exact⟨_,_,_,_,_,_,rfl,rfl⟩
 have hz7:=hd7.size;have hb7:=below_alloc w7 (.cells #[.slice ya yn yc,.slice za zn zc] 29);have hfa:=HFA.out;have hrs:=HRS.out;have hra:=HRA.out;have hrb:=HRB.out;have hNAp:NearP (fun b=>w4.heap.size≤b∧b<fa) w5 (.slice aa an ac) (.slice ba bn bc) da:=NearP.ofN HNA5.out (fun b h1 h2=>⟨h1,by omega⟩);have ho56:OnlyAt [cb] w5 w6:=HO56.out;have HNA8:=Lib.hid (((hNAp.only ho56 (fun b hb hm=>by simp at hb;have:=hm.1;omega)).only hd7.2.1 (fun b hb hm=>by simp at hb;have:=hm.1;omega)).only (OnlyAt.ofBelow [] hb7) (fun b hb=>by simp at hb));have HD8:=Lib.hid ((HD6.out.trans hd7).below hb7);have HO8:Hid (OnlyAt [cb] W3 (w7.alloc (.cells #[.slice ya yn yc,.slice za zn zc] 29))):=Lib.hid ((HO6.out.same (hd7.2.1)).same (OnlyAt.ofBelow _ hb7));have HX8:=Lib.hid ((HX6.out.only hd7.2.1 (fun b hb hm=>by have:=HX6.out.lo b hb;simp at hm;omega)).below hb7);have hcs:fs≠cb:=by omega
 have hca:fa≠cb:=by omega
 have HP8:Hid (P7 rs ra rb fs fa w7.heap.size (w7.alloc (.cells #[.slice ya yn yc,.slice za zn zc] 29)) (.slice xa sn xc) (.slice aa an ac) (.slice ba bn bc) (.slice ya yn yc) (.slice za zn zc)):=by
  have c1:rs∉[cb]:=by simp;omega
  have c2:ra∉[cb]:=by simp;omega
  have c3:rb∉[cb]:=by simp;omega
  have ho:=HO8.out
  exact Lib.hid ⟨cellk hb7 (hd7.cell hcs ks6),frok hb7 (hd7.cell hcs ks6) (hd7.frozen hcs (by omega) kf6),cellk hb7 (hd7.cell hca ka0),cellk hb7 (hd7.cell hca ka1),newBox w7 #[.slice ya yn yc,.slice za zn zc] _ 0 _ rfl,newBox w7 #[.slice ya yn yc,.slice za zn zc] _ 1 _ rfl,newFrzN w7 _ _ 0,newFrzN w7 _ _ 1,
   ho.cell c1 K1.out,ho.cell c2 K2.out.1,ho.cell c2 K2.out.2,ho.cell c3 K3.out.1,ho.cell c3 K3.out.2,ho.frozen (by omega) c1 F1.out,ho.frozen (by omega) c2 F2.out.1,ho.frozen (by omega) c2 F2.out.2,ho.frozen (by omega) c3 F3.out.1,ho.frozen (by omega) c3 F3.out.2⟩
 have HNB8:Hid (NearP (fun b=>fa<b∧b≠w7.heap.size) (w7.alloc (.cells #[.slice ya yn yc,.slice za zn zc] 29)) (.slice ya yn yc) (.slice za zn zc) db):=Lib.hid ((NearP.ofN (P:=fun b=>fa<b∧b≠w7.heap.size) hnb (fun b h1 h2=>⟨by omega,by omega⟩)).only (OnlyAt.ofBelow [] hb7) (fun b hb=>by simp at hb));have HQB:=Lib.hid hqb;have HDB1:=Lib.hid hdb1;have hz8:(w7.alloc (.cells #[.slice ya yn yc,.slice za zn zc] 29)).heap.size=w7.heap.size+1:=by simp
 clear hnb hqb hdb1 hd7 hb7 ks6 kf6 ka0 ka1 hNAp ho56 hfa hrs hra hrb hcs hca;go_wp2_with fail
 obtain⟨fb,hfb⟩:∃x,x=w7.heap.size:=⟨_,rfl⟩
 rw[←hfb] at HP8 HNB8 ⊢;have HFB:=Lib.hid hfb;clear hfb;generalize (w7.alloc (.cells #[.slice ya yn yc,.slice za zn zc] 29))=w8 at *;have hfb:=HFB.out;have hfs:=HFS.out;have hfa:=HFA.out;have hrs:=HRS.out;have hra:=HRA.out;have hrb:=HRB.out;have n1:rs≠ra:=by omega
 have n2:rs≠rb:=by omega
 have n3:ra≠rb:=by omega
 have m1:rs≠fb∧ra≠fb∧rb≠fb∧fs≠fb∧fa≠fb:=⟨by omega,by omega,by omega,by omega,by omega⟩;have m2:rs≠fs∧ra≠fs∧rb≠fs∧fa≠fs∧fb≠fs:=⟨by omega,by omega,by omega,by omega,by omega⟩;have l1:cb<rs:=by omega
 have l2:rs<W3.heap.size:=by omega
 have l3:ra<W3.heap.size:=by omega
 have l4:rb<W3.heap.size:=by omega
 have l5:W3.heap.size≤fs:=by omega
 have l6:fs<w4.heap.size:=by omega
 have l7:w4.heap.size≤fa:=by omega
 have l8:fa<fb:=by omega
 have l9:w.heap.size≤rs:=by omega
 have la:w.heap.size≤ra:=by omega
 have lb:w.heap.size≤rb:=by omega
 have lc:w.heap.size≤W3.heap.size:=by omega
 have ld:∀b∈blk (.slice xa sn xc),W3.heap.size≤b∧b<fs:=HXB.out;have LD:=Lib.hid ld;clear hs3 hz1 hz4 hz5 hz6 hz7 hz8 hfa hrs hra hrb hfb hfs hw4a hw4b ld;refine (hon.out 3 w8 HD8.out.st (by omega) (by omega)).mono ?_;rintro e w9 ⟨b1,rfl,hcur,hg⟩;have ko:=grownBy_only hg;have HP9:=Lib.hid (HP8.out.only ko (fun b hb=>by simp at hb;omega));have HA9:=Lib.hid (HNA8.out.only ko (fun b hb hm=>by simp at hb;have:=hm.1;omega));have HB9:=Lib.hid (HNB8.out.only ko (fun b hb hm=>by simp at hb;have:=hm.1;omega));have HX9:=Lib.hid (HX8.out.only ko (fun b hb hm=>by have:=(HX8.out.lo b hb).1;simp at hm;omega));have HD9:=Lib.hid (HD8.out.draw hcur hg);clear hcur hg ko HP8 HNA8 HNB8 HX8 HD8 HO8
 go_upto_if 18 with fail
 go_cut [18] (fun q18 wx=>∃hB bB dB,P7 rs ra rb fs fa fb wx (.slice xa sn xc) (.slice aa an ac) (.slice ba bn bc) hB bB∧NearP (fun b=>w4.heap.size≤b∧b<fa) wx (.slice aa an ac) (.slice ba bn bc) da∧NearP (fun b=>fa<b∧b≠fb) wx hB bB dB∧QBd 2 4 dB∧OwI W3.heap.size wx (.slice xa sn xc) s∧DSt w wx S len cb)
 case first=>
  cases b1 with
  |true=>
   obtain⟨g1,g2,g3,g4,g5,g6,g7,g8,_,_,_,_,_,_,_,_,_,_⟩:=HP9.out;have hwb:=World.block_lt_of_cell? _ _ g5;go_wp2_with fail
   refine (hne.out w9 W3.heap.size _ s _ _ db HD9.out.st HX9.out (by omega) HSB.out (HB9.out.toN (fun b hb=>by have:=hb.1;omega) (by omega)) HQB.out HDB1.out).mono ?_;rintro e w10 ⟨hv,bv,d2,rfl,hn2,hq2,hd2,_⟩
   obtain⟨ua,un,uc,va,vn,vc,rfl,rfl⟩:∃a n c a' n' c',hv=.slice a n c∧bv=.slice a' n' c':=by
    obtain⟨a,n,c,a',n',c',e,_⟩:=hn2.rd
    cases e;exact⟨_,_,_,_,_,_,rfl,rfl⟩
   have HPa:=Lib.hid ((HP9.out.only hd2.2.1 (fun b hb=>by simp at hb;omega)));have HAa:=Lib.hid (HA9.out.only hd2.2.1 (fun b hb hm=>by simp at hb;have:=hm.1;omega));have HBa:=Lib.hid (NearP.ofN (P:=fun b=>fa<b∧b≠fb) hn2 (fun b h1 h2=>⟨by omega,by omega⟩));have HXa:=Lib.hid (HX9.out.only hd2.2.1 (fun b hb hm=>by have:=(HX9.out.lo b hb).1;simp at hm;omega));have HDa:=Lib.hid (HD9.out.trans hd2);have HQa:=Lib.hid hq2;have hz9:=HD9.out.size;clear g1 g2 g3 g4 g5 g6 g7 g8 hn2 hq2 hd2;obtain⟨g1,g2,g3,g4,g5,g6,g7,g8,_,_,_,_,_,_,_,_,_,_⟩:=HPa.out;go_wp2_with fail
   go_meet
   have hk:OnlyAt [fb] w10 ((w10.setCell ⟨fb,0,none⟩ (.slice ua un uc)).setCell ⟨fb,1,none⟩ (.slice va vn vc)):=(OnlyAt.setCell _ _ _ _).same (OnlyAt.setCell _ _ _ _);exact⟨_,_,d2,(HPa.out.setH _ m1).setB _ m1,HAa.out.only hk (fun b hb hm=>by simp at hb;have:=hm.2;omega),HBa.out.only hk (fun b hb hm=>by simp at hb;exact hm.2 hb),HQa.out,HXa.out.only hk (fun b hb hm=>by have:=LD.out b hb;simp at hm;omega),HDa.out.only hk (fun b hb=>by simp at hb;omega)⟩
  |false=>
   go_wp2_with fail
   go_meet
   exact⟨_,_,db,HP9.out,HA9.out,HB9.out,HQB.out,HX9.out,HD9.out⟩
 case rest=>
  obtain⟨hB,bB,dB,hP,hA,hB9,hQ,hX,hD⟩:=hcut;have HPc:=Lib.hid hP;have HAc:=Lib.hid hA;have HBc:=Lib.hid hB9;have HQc:=Lib.hid hQ;have HXc:=Lib.hid hX;have HDc:=Lib.hid hD;obtain⟨ya',yn',yc',za',zn',zc',rfl,rfl⟩:=hB9.shape;have hwb:=World.block_lt_of_cell? _ _ hP.b0;have hwcw:=hD.size;clear hP hA hB9 hQ hX hD HP9 HA9 HB9 HX9 HD9;go_wp2_with fail
  refine (hbl.out 16 wc HDc.out.st (by omega) (by omega)).mono ?_;rintro e w11 ⟨x,hx0,hx1,rfl,hcur,hg⟩;have ko:=grownBy_only hg;have HPz:=Lib.hid (HPc.out.only ko (fun b hb=>by simp at hb;omega));have HAz:=Lib.hid (HAc.out.only ko (fun b hb hm=>by simp at hb;have:=hm.1;omega));have HBz:=Lib.hid (HBc.out.only ko (fun b hb hm=>by simp at hb;have:=hm.1;omega));have HXz:=Lib.hid (HXc.out.only ko (fun b hb hm=>by have:=(HXc.out.lo b hb).1;simp at hm;omega));have HDz:=Lib.hid (HDc.out.draw hcur hg);have hw11:=ko.size;have HQz:Hid (QBd 3 4 dB):=⟨by have:=HQc.out.1;omega,HQc.out.2.1,HQc.out.2.2⟩;have HLz:Hid (s.length≤5):=by have:=HSB.out.2.1;exact Lib.hid (by omega)
  clear hcur hg ko HPc HAc HBc HXc HDc;have hcase:x=0∨x=1∨1<x:=by omega
  rcases hcase with rfl|rfl|hx2
  ·have HLH:Hid (dB.1.length=yn'):=HBz.out.lenH;have hln:yn'≤2:=by have:=HLH.out;have:=HQc.out.1;omega
   obtain⟨g1,g2,g3,g4,g5,g6,g7,g8,_,_,_,_,_,_,_,_,_,_⟩:=HPz.out;clear g1 g2 g3 g4 g6 g7 g8;go_wp2_with fail
   go_region_law (first
    |(refine step_app1D (by rfl) (.tmp 28) (.tmp 31) 24 (by rfl) 3 (.int .i64 0) 1 8 Tryz.underlying24 info_intD (by decide) (by decide) (by rfl) (.slice ya' yn' yc') yn' (dB.1.map (Value.int .i64)) (by rfl) (BuiltC.grow HBT.out ((Below.refl _ _).alloc (Nat.le_refl _) _)) w7c.heap.size [.int .i64 y] (by rfl) (by simp[Value.oneCell']) (by rfl) (heap_alloc_new w7c _) (by omega) ?_;intro g' cap' w8c hown' ko hbl;have hal:=below_alloc w7c (.cells #[.int .i64 y] 3);have hzz:=hal.size;have HB8:Hid (NearP (fun b=>fa<b∧b≠fb) w8c (.slice (some ⟨g',0,none⟩) (yn'+1) cap') (.slice za' zn' zc') (dB.1++[y],dB.2)):=Lib.hid (NearP.appH HB7.out hal ko (by have h9:=hown';rw[←HLH.out] at h9;exact⟨_,HWh.out,h9⟩) HLH.out ⟨hy0,hy1⟩ hbl (fun b hb=>⟨by omega,by omega⟩));have hPv:=HPV.out;have HP8b:=Lib.hid ((HP7.out.below hal).only ko (fun b hb=>by have:=hPv b hb;omega));have HA8:=Lib.hid ((HA7.out.only (OnlyAt.ofBelow [] hal) (fun b hb=>by simp at hb)).only ko (fun b hb hm=>by have:=hPv b hb;have:=hm.2;omega));have HX8b:=Lib.hid ((HX7.out.below hal).only ko (fun b hb hm=>by have:=LD.out b hb;have:=hPv b hm;omega));have HD8b:=Lib.hid ((HD7.out.below hal).only ko (fun b hb=>by have:=hPv b hb;omega));have z1:=HP8b.out.b0;have z2:=HP8b.out.bf0;have hz8:=ko.size;clear hown' ko hbl hPv)
    |(go_simp;go_at_call 103;refine (h2a.out _ (HDz.out.below ((Below.refl _ _).drew)).st).mono ?_;rintro e2 w7c ⟨y,hy0,hy1,rfl,hcur,hg⟩;have HD7:=Lib.hid ((HDz.out.below ((Below.refl _ _).drew)).draw hcur hg);have ko7:OnlyAt [cb] w11 w7c:=(OnlyAt.ofBelow [cb] ((Below.refl w11.heap.size w11).drew)).same (grownBy_only hg);have HP7:=Lib.hid (HPz.out.only ko7 (fun b hb=>by simp at hb;omega));have HA7:=Lib.hid (HAz.out.only ko7 (fun b hb hm=>by simp at hb;have:=hm.1;omega));have HB7:=Lib.hid (HBz.out.only ko7 (fun b hb hm=>by simp at hb;have:=hm.1;omega));have HX7:=Lib.hid (HXz.out.only ko7 (fun b hb hm=>by have:=(HXz.out.lo b hb).1;simp at hm;omega));obtain⟨Wh,hWh,hbt,hPv⟩:=HB7.out.builtH;rw[HLH.out] at hbt;have HBT:=Lib.hid hbt;have HWh:=Lib.hid hWh;have HPV:=Lib.hid hPv;have qb:=HP7.out.b0;have qc:=cellk ((Below.refl w7c.heap.size w7c).alloc (Nat.le_refl _) (.cells #[.int .i64 y] 3)) qb;have hz7c:=ko7.size;clear hcur hg hbt ko7 hPv hWh))
   all_goals (go_wp2_with fail)
   all_goals
    have HPz2:=Lib.hid (HP8b.out.setH (.slice (some ⟨g',0,none⟩) (yn'+1) cap') m1);have kst:=OnlyAt.setCell w8c fb 0 (.slice (some ⟨g',0,none⟩) (yn'+1) cap');have HAz2:=Lib.hid (HA8.out.only kst (fun b hb hm=>by simp at hb;have:=hm.2;omega));have HBz2:=Lib.hid (HB8.out.only kst (fun b hb hm=>by simp at hb;exact hm.2 hb));have HXz2:=Lib.hid (HX8b.out.only kst (fun b hb hm=>by have:=LD.out b hb;simp at hm;omega));have HDz2:=Lib.hid (HD8b.out.only kst (fun b hb=>by simp at hb;omega));have hzst:=kst.size;generalize w8c.setCell ⟨fb,0,none⟩ (.slice (some ⟨g',0,none⟩) (yn'+1) cap')=w9c at *;clear z1 z2 kst HPz HAz HBz HXz HDz HP8b HA8 HX8b HD8b HB8 g5;have HPz:=HPz2;have HAz:=HAz2;have HBz:=HBz2;have HXz:=HXz2;have HDz:=HDz2;clear HPz2 HAz2 HBz2 HXz2 HDz2 HQz;have HQz:Hid (QBd 3 4 (dB.1++[y],dB.2)):=⟨by have:=HQc.out.1;simp;omega,HQc.out.2.1,HQc.out.2.2⟩;go_wp2_with fail
    refine (hon.out 2 w9c HDz.out.st (by omega) (by omega)).mono ?_;rintro e wf ⟨b2,rfl,hcur,hg⟩;have ko:=grownBy_only hg;have HPf:=Lib.hid (HPz.out.only ko (fun b hb=>by simp at hb;omega));have HAf:=Lib.hid (HAz.out.only ko (fun b hb hm=>by simp at hb;have:=hm.1;omega));have HBf:=Lib.hid (HBz.out.only ko (fun b hb hm=>by simp at hb;have:=hm.1;omega));have HXf:=Lib.hid (HXz.out.only ko (fun b hb hm=>by have:=(HXz.out.lo b hb).1;simp at hm;omega));have HDf:=Lib.hid (HDz.out.draw hcur hg);have hwf:=HDf.out.size;have hwf3:=World.block_lt_of_cell? _ _ HPf.out.b0;clear hcur hg ko;obtain⟨g1,g2,g3,g4,g5,g6,g7,g8,g9,g10,g11,g12,g13,g14,g15,g16,g17,g18⟩:=HPf.out
    cases b2 with
    |true=>
     have HEND:Hid (∀wE,OnlyAt [rs,ra,rb] wf.drew wE→DrewP w S len cb (.returned (.tuple #[.agg #[.slice xa sn xc],.agg #[.slice (some ⟨g',0,none⟩) (yn'+1) cap',.slice za' zn' zc'],.agg #[.slice aa an ac,.slice ba bn bc]])) wE):=Lib.hid (fun wE hk0=>by
      have hk:OnlyAt [rs,ra,rb] wf wE:=(OnlyAt.ofBelow [rs,ra,rb] ((Below.refl wf.heap.size wf).drew)).same hk0;have hks:=hk.size;have hlo:∀b∈[rs,ra,rb],b<W3.heap.size:=fun b hb=>by simp at hb;omega
      have hbk:=HDf.out.size;exact⟨_,s,_,_,(dB.1++[y],dB.2),_,_,da,rfl,(HXf.out.only hk (fun b hb hm=>by have:=(HXf.out.lo b hb).1;have:=hlo b hm;omega)).mono (by omega),HLz.out,(HBf.out.only hk (fun b hb hm=>by have:=hlo b hb;have:=hm.1;omega)).toN (fun b hb=>by have:=hb.1;omega) (by omega),HQz.out,(HAf.out.only hk (fun b hb hm=>by have:=hlo b hb;have:=hm.1;omega)).toN (fun b hb=>by have:=hb.1;omega) (by omega),⟨by have:=HQA.out.1;omega,by have:=HQA.out.2.1;omega,HQA.out.2.2⟩,HDf.out.only hk (fun b hm=>by simp at hm;omega)⟩)
     obtain⟨wd,hwd⟩:∃x,x=wf.drew:=⟨_,rfl⟩
     have hq:=(HPf.out.q7).below (Below.refl wf.heap.size wf).drew;have hko:OnlyAt [rs,ra,rb] wf.drew wf.drew:=OnlyAt.refl _ _;rw[←hwd] at hq hko HEND;clear g1 g2 g3 g4 g5 g6 g7 g8 g9 g10 g11 g12 g13 g14 g15 g16 g17 g18;have hdif:Dif7 rs ra rb fs fa fb:=⟨n1,n2,n3,⟨m2.1,by omega,m1.1⟩,⟨m2.2.1,by omega,m1.2.1⟩,⟨m2.2.2.1,by omega,m1.2.2.1⟩⟩;go_wp2_with fail
     clear HPf HAf HBf HXf HDf hwf hwf3 HPz HAz HBz HXz HDz HQz HLz HQA HXB LD HSB HSN hbl hon hsc hqu hne h2a hsa HS HBW K1 K2 K3 F1 F2 F3 HD3 HX1 HD4 HO4 HNA5 HNA HDA1 HD6 HO56 HO6 HX6 HQB HDB1 HQc;refine wp_region_noPanic ?_;refine wp_region_held_drew (S:=(fun w'=>w'.cell? ⟨fs,0,none⟩=some (.slice xa sn xc)∧w'.cell? ⟨fa,0,none⟩=some (.slice aa an ac)∧w'.cell? ⟨fa,1,none⟩=some (.slice ba bn bc)∧w'.cell? ⟨fb,0,none⟩=some (.slice (some ⟨g',0,none⟩) (yn'+1) cap')∧w'.cell? ⟨fb,1,none⟩=some (.slice za' zn' zc'))) (by kernel_rfl) ?_ (fun hHeld=>?_)
     ·(try dsimp only)
      rw[←hwd];exact⟨hq.s0,hq.a0,hq.a1,hq.b0,hq.b1⟩
     refine wpAnyH_take (i:=0) (oi:=_) (v:=?_) rfl (by kernel_rfl) (by kernel_rfl) (by kernel_rfl) (fun _ _ _ h=>h) (Or.inl ⟨by rfl,?_⟩) (by assumption) ?_;rotate_left
     ·(intro w hSw;(try dsimp only at hSw);go_simp<;>with_reducible rfl)
     (try simp only[Act.put,List.setIfInBounds_toArray,List.set_cons_zero,List.set_cons_succ])
     refine wpAnyH_take (i:=1) (oi:=_) (v:=?_) rfl (by kernel_rfl) (by kernel_rfl) (by kernel_rfl) (fun _ _ _ h=>h) (Or.inl ⟨by rfl,?_⟩) (by assumption) ?_;rotate_left
     ·(intro w hSw;(try dsimp only at hSw);go_simp<;>with_reducible rfl)
     (try simp only[Act.put,List.setIfInBounds_toArray,List.set_cons_zero,List.set_cons_succ])
     refine wpAnyH_take (i:=2) (oi:=_) (v:=?_) rfl (by kernel_rfl) (by kernel_rfl) (by kernel_rfl) (fun _ _ _ h=>h) (Or.inl ⟨by rfl,?_⟩) (by assumption) ?_;rotate_left
     ·(intro w hSw;(try dsimp only at hSw);go_simp<;>with_reducible rfl)
     (try simp only[Act.put,List.setIfInBounds_toArray,List.set_cons_zero,List.set_cons_succ])
     clear hHeld;rw[←hwd];clear hwd;refine wpAnyH_ready (rs:=[3]) (by kernel_rfl) (by simp) ?_;refine AllReadyH.cons (o:=_) rfl (fun K hK=>?_) ?_
     ·obtain⟨e0,e1,e2,e3,e4,_,_,_,_,_,f0,f1,f2,f3,f4⟩:=id hq
      go_simp
      obtain⟨ws1,hw⟩:∃x,x=(wd.setCell ⟨rs,0,none⟩ (.slice xa sn xc)):=⟨_,rfl⟩
      have hq1:=hq.setRs hdif (.slice xa sn xc);have hko1:OnlyAt [rs,ra,rb] wd (wd.setCell ⟨rs,0,none⟩ (.slice xa sn xc)):=hko.same ((OnlyAt.setCell _ _ _ _).wider (by simp));rw[←hw] at hq1 hko1 ⊢;clear hw e0 e1 e2 e3 e4 f0 f1 f2 f3 f4;refine hK.out _ _ ?_ (fun hHeld=>?_)
      ·(try dsimp only)
       exact⟨hq1.s0,hq1.a0,hq1.a1,hq1.b0,hq1.b1⟩
      clear hK K hHeld
      (try simp only[Act.put,List.setIfInBounds_toArray,List.set_cons_zero,List.set_cons_succ])
      refine wpAnyH_ready (rs:=[4]) (by kernel_rfl) (by simp) ?_;refine AllReadyH.cons (o:=_) rfl (fun K hK=>?_) ?_
      ·obtain⟨e0,e1,e2,e3,e4,_,_,_,_,_,f0,f1,f2,f3,f4⟩:=id hq1
       go_simp
       obtain⟨ws2,hw⟩:∃x,x=((ws1.setCell ⟨ra,0,none⟩ (.slice (some ⟨g',0,none⟩) (yn'+1) cap')).setCell ⟨ra,1,none⟩ (.slice za' zn' zc')):=⟨_,rfl⟩
       have hq2:=hq1.setRa hdif (.slice (some ⟨g',0,none⟩) (yn'+1) cap') (.slice za' zn' zc');have hko2:OnlyAt [rs,ra,rb] wd ((ws1.setCell ⟨ra,0,none⟩ (.slice (some ⟨g',0,none⟩) (yn'+1) cap')).setCell ⟨ra,1,none⟩ (.slice za' zn' zc')):=hko1.same (((OnlyAt.setCell _ _ _ _).same (OnlyAt.setCell _ _ _ _)).wider (by simp));rw[←hw] at hq2 hko2 ⊢;clear hw e0 e1 e2 e3 e4 f0 f1 f2 f3 f4;refine hK.out _ _ ?_ (fun hHeld=>?_)
       ·(try dsimp only)
        exact⟨hq2.s0,hq2.a0,hq2.a1,hq2.b0,hq2.b1⟩
       clear hK K hHeld
       (try simp only[Act.put,List.setIfInBounds_toArray,List.set_cons_zero,List.set_cons_succ])
       refine wpAnyH_ready (rs:=[5]) (by kernel_rfl) (by simp) ?_;refine AllReadyH.cons (o:=_) rfl (fun K hK=>?_) ?_
       ·obtain⟨e0,e1,e2,e3,e4,_,_,_,_,_,f0,f1,f2,f3,f4⟩:=id hq2
        go_simp
        obtain⟨ws3,hw⟩:∃x,x=((ws2.setCell ⟨rb,0,none⟩ (.slice aa an ac)).setCell ⟨rb,1,none⟩ (.slice ba bn bc)):=⟨_,rfl⟩
        have hq3:=hq2.setRb hdif (.slice aa an ac) (.slice ba bn bc);have hko3:OnlyAt [rs,ra,rb] wd ((ws2.setCell ⟨rb,0,none⟩ (.slice aa an ac)).setCell ⟨rb,1,none⟩ (.slice ba bn bc)):=hko2.same (((OnlyAt.setCell _ _ _ _).same (OnlyAt.setCell _ _ _ _)).wider (by simp));rw[←hw] at hq3 hko3 ⊢;clear hw e0 e1 e2 e3 e4 f0 f1 f2 f3 f4;refine hK.out _ _ ?_ (fun hHeld=>?_)
        ·(try dsimp only)
         exact⟨hq3.s0,hq3.a0,hq3.a1,hq3.b0,hq3.b1⟩
        clear hK K hHeld
        (try simp only[Act.put,List.setIfInBounds_toArray,List.set_cons_zero,List.set_cons_succ])
        refine wpAnyH_done (by kernel_rfl) ?_ _;refine NoPanic.normal ?_;go_wp2_with fail
        exact bodyPost_ret (v:=.tuple #[.agg #[.slice xa sn xc],.agg #[.slice (some ⟨g',0,none⟩) (yn'+1) cap',.slice za' zn' zc'],.agg #[.slice aa an ac,.slice ba bn bc]]) (by simp[results,Tryz.results73,go_sem,hq3.rs0,hq3.ra0,hq3.ra1,hq3.rb0,hq3.rb1]) rfl (HEND.out _ hko3)
       exact AllReadyH.nil
      exact AllReadyH.nil
     exact AllReadyH.nil
    |false=>
     have HEND:Hid (∀wE,OnlyAt [rs,ra,rb] wf.drew wE→DrewP w S len cb (.returned (.tuple #[.agg #[.slice xa sn xc],.agg #[.slice aa an ac,.slice ba bn bc],.agg #[.slice (some ⟨g',0,none⟩) (yn'+1) cap',.slice za' zn' zc']])) wE):=Lib.hid (fun wE hk0=>by
      have hk:OnlyAt [rs,ra,rb] wf wE:=(OnlyAt.ofBelow [rs,ra,rb] ((Below.refl wf.heap.size wf).drew)).same hk0;have hks:=hk.size;have hlo:∀b∈[rs,ra,rb],b<W3.heap.size:=fun b hb=>by simp at hb;omega
      have hbk:=HDf.out.size;exact⟨_,s,_,_,da,_,_,(dB.1++[y],dB.2),rfl,(HXf.out.only hk (fun b hb hm=>by have:=(HXf.out.lo b hb).1;have:=hlo b hm;omega)).mono (by omega),HLz.out,(HAf.out.only hk (fun b hb hm=>by have:=hlo b hb;have:=hm.1;omega)).toN (fun b hb=>by have:=hb.1;omega) (by omega),⟨by have:=HQA.out.1;omega,by have:=HQA.out.2.1;omega,HQA.out.2.2⟩,(HBf.out.only hk (fun b hb hm=>by have:=hlo b hb;have:=hm.1;omega)).toN (fun b hb=>by have:=hb.1;omega) (by omega),HQz.out,HDf.out.only hk (fun b hm=>by simp at hm;omega)⟩)
     obtain⟨wd,hwd⟩:∃x,x=wf.drew:=⟨_,rfl⟩
     have hq:=(HPf.out.q7).below (Below.refl wf.heap.size wf).drew;have hko:OnlyAt [rs,ra,rb] wf.drew wf.drew:=OnlyAt.refl _ _;rw[←hwd] at hq hko HEND;clear g1 g2 g3 g4 g5 g6 g7 g8 g9 g10 g11 g12 g13 g14 g15 g16 g17 g18;have hdif:Dif7 rs ra rb fs fa fb:=⟨n1,n2,n3,⟨m2.1,by omega,m1.1⟩,⟨m2.2.1,by omega,m1.2.1⟩,⟨m2.2.2.1,by omega,m1.2.2.1⟩⟩;go_wp2_with fail
     clear HPf HAf HBf HXf HDf hwf hwf3 HPz HAz HBz HXz HDz HQz HLz HQA HXB LD HSB HSN hbl hon hsc hqu hne h2a hsa HS HBW K1 K2 K3 F1 F2 F3 HD3 HX1 HD4 HO4 HNA5 HNA HDA1 HD6 HO56 HO6 HX6 HQB HDB1 HQc;refine wp_region_noPanic ?_;refine wp_region_held_drew (S:=(fun w'=>w'.cell? ⟨fs,0,none⟩=some (.slice xa sn xc)∧w'.cell? ⟨fa,0,none⟩=some (.slice aa an ac)∧w'.cell? ⟨fa,1,none⟩=some (.slice ba bn bc)∧w'.cell? ⟨fb,0,none⟩=some (.slice (some ⟨g',0,none⟩) (yn'+1) cap')∧w'.cell? ⟨fb,1,none⟩=some (.slice za' zn' zc'))) (by kernel_rfl) ?_ (fun hHeld=>?_)
     ·(try dsimp only)
      rw[←hwd];exact⟨hq.s0,hq.a0,hq.a1,hq.b0,hq.b1⟩
     refine wpAnyH_take (i:=0) (oi:=_) (v:=?_) rfl (by kernel_rfl) (by kernel_rfl) (by kernel_rfl) (fun _ _ _ h=>h) (Or.inl ⟨by rfl,?_⟩) (by assumption) ?_;rotate_left
     ·(intro w hSw;(try dsimp only at hSw);go_simp<;>with_reducible rfl)
     (try simp only[Act.put,List.setIfInBounds_toArray,List.set_cons_zero,List.set_cons_succ])
     refine wpAnyH_take (i:=1) (oi:=_) (v:=?_) rfl (by kernel_rfl) (by kernel_rfl) (by kernel_rfl) (fun _ _ _ h=>h) (Or.inl ⟨by rfl,?_⟩) (by assumption) ?_;rotate_left
     ·(intro w hSw;(try dsimp only at hSw);go_simp<;>with_reducible rfl)
     (try simp only[Act.put,List.setIfInBounds_toArray,List.set_cons_zero,List.set_cons_succ])
     refine wpAnyH_take (i:=2) (oi:=_) (v:=?_) rfl (by kernel_rfl) (by kernel_rfl) (by kernel_rfl) (fun _ _ _ h=>h) (Or.inl ⟨by rfl,?_⟩) (by assumption) ?_;rotate_left
     ·(intro w hSw;(try dsimp only at hSw);go_simp<;>with_reducible rfl)
     (try simp only[Act.put,List.setIfInBounds_toArray,List.set_cons_zero,List.set_cons_succ])
     clear hHeld;rw[←hwd];clear hwd;refine wpAnyH_ready (rs:=[3]) (by kernel_rfl) (by simp) ?_;refine AllReadyH.cons (o:=_) rfl (fun K hK=>?_) ?_
     ·obtain⟨e0,e1,e2,e3,e4,_,_,_,_,_,f0,f1,f2,f3,f4⟩:=id hq
      go_simp
      obtain⟨ws1,hw⟩:∃x,x=(wd.setCell ⟨rs,0,none⟩ (.slice xa sn xc)):=⟨_,rfl⟩
      have hq1:=hq.setRs hdif (.slice xa sn xc);have hko1:OnlyAt [rs,ra,rb] wd (wd.setCell ⟨rs,0,none⟩ (.slice xa sn xc)):=hko.same ((OnlyAt.setCell _ _ _ _).wider (by simp));rw[←hw] at hq1 hko1 ⊢;clear hw e0 e1 e2 e3 e4 f0 f1 f2 f3 f4;refine hK.out _ _ ?_ (fun hHeld=>?_)
      ·(try dsimp only)
       exact⟨hq1.s0,hq1.a0,hq1.a1,hq1.b0,hq1.b1⟩
      clear hK K hHeld
      (try simp only[Act.put,List.setIfInBounds_toArray,List.set_cons_zero,List.set_cons_succ])
      refine wpAnyH_ready (rs:=[4]) (by kernel_rfl) (by simp) ?_;refine AllReadyH.cons (o:=_) rfl (fun K hK=>?_) ?_
      ·obtain⟨e0,e1,e2,e3,e4,_,_,_,_,_,f0,f1,f2,f3,f4⟩:=id hq1
       go_simp
       obtain⟨ws2,hw⟩:∃x,x=((ws1.setCell ⟨ra,0,none⟩ (.slice aa an ac)).setCell ⟨ra,1,none⟩ (.slice ba bn bc)):=⟨_,rfl⟩
       have hq2:=hq1.setRa hdif (.slice aa an ac) (.slice ba bn bc);have hko2:OnlyAt [rs,ra,rb] wd ((ws1.setCell ⟨ra,0,none⟩ (.slice aa an ac)).setCell ⟨ra,1,none⟩ (.slice ba bn bc)):=hko1.same (((OnlyAt.setCell _ _ _ _).same (OnlyAt.setCell _ _ _ _)).wider (by simp));rw[←hw] at hq2 hko2 ⊢;clear hw e0 e1 e2 e3 e4 f0 f1 f2 f3 f4;refine hK.out _ _ ?_ (fun hHeld=>?_)
       ·(try dsimp only)
        exact⟨hq2.s0,hq2.a0,hq2.a1,hq2.b0,hq2.b1⟩
       clear hK K hHeld
       (try simp only[Act.put,List.setIfInBounds_toArray,List.set_cons_zero,List.set_cons_succ])
       refine wpAnyH_ready (rs:=[5]) (by kernel_rfl) (by simp) ?_;refine AllReadyH.cons (o:=_) rfl (fun K hK=>?_) ?_
       ·obtain⟨e0,e1,e2,e3,e4,_,_,_,_,_,f0,f1,f2,f3,f4⟩:=id hq2
        go_simp
        obtain⟨ws3,hw⟩:∃x,x=((ws2.setCell ⟨rb,0,none⟩ (.slice (some ⟨g',0,none⟩) (yn'+1) cap')).setCell ⟨rb,1,none⟩ (.slice za' zn' zc')):=⟨_,rfl⟩
        have hq3:=hq2.setRb hdif (.slice (some ⟨g',0,none⟩) (yn'+1) cap') (.slice za' zn' zc');have hko3:OnlyAt [rs,ra,rb] wd ((ws2.setCell ⟨rb,0,none⟩ (.slice (some ⟨g',0,none⟩) (yn'+1) cap')).setCell ⟨rb,1,none⟩ (.slice za' zn' zc')):=hko2.same (((OnlyAt.setCell _ _ _ _).same (OnlyAt.setCell _ _ _ _)).wider (by simp));rw[←hw] at hq3 hko3 ⊢;clear hw e0 e1 e2 e3 e4 f0 f1 f2 f3 f4;refine hK.out _ _ ?_ (fun hHeld=>?_)
        ·(try dsimp only)
         exact⟨hq3.s0,hq3.a0,hq3.a1,hq3.b0,hq3.b1⟩
        clear hK K hHeld
        (try simp only[Act.put,List.setIfInBounds_toArray,List.set_cons_zero,List.set_cons_succ])
        refine wpAnyH_done (by kernel_rfl) ?_ _;refine NoPanic.normal ?_;go_wp2_with fail
        exact bodyPost_ret (v:=.tuple #[.agg #[.slice xa sn xc],.agg #[.slice aa an ac,.slice ba bn bc],.agg #[.slice (some ⟨g',0,none⟩) (yn'+1) cap',.slice za' zn' zc']]) (by simp[results,Tryz.results73,go_sem,hq3.rs0,hq3.ra0,hq3.ra1,hq3.rb0,hq3.rb1]) rfl (HEND.out _ hko3)
       exact AllReadyH.nil
      exact AllReadyH.nil
     exact AllReadyH.nil
  ·obtain⟨g1,g2,_,_,_,_,_,_,_,_,_,_,_,_,_,_,_,_⟩:=HPz.out;go_wp2_with fail
   refine (hsa.out _ HDz.out.st).mono ?_;rintro e w7c ⟨zv,vl,rfl,hoz,_,hz5,hd7⟩;obtain⟨va,vc,rfl⟩:=hoz.shape;have hzz:=hd7.size;clear g1 g2;have HP7:=Lib.hid (HPz.out.only hd7.2.1 (fun b hb=>by simp at hb;omega));have kst:=OnlyAt.setCell w7c fs 0 (.slice va vl.length vc);have HPz2:=Lib.hid (HP7.out.setS (.slice va vl.length vc) m2);have HAz2:=Lib.hid ((HAz.out.only hd7.2.1 (fun b hb hm=>by simp at hb;have:=hm.1;omega)).only kst (fun b hb hm=>by simp at hb;have:=hm.1;omega));have HBz2:=Lib.hid ((HBz.out.only hd7.2.1 (fun b hb hm=>by simp at hb;have:=hm.1;omega)).only kst (fun b hb hm=>by simp at hb;have:=hm.1;omega));have HXz2:Hid (OwI W3.heap.size (w7c.setCell ⟨fs,0,none⟩ (.slice va vl.length vc)) (.slice va vl.length vc) vl):=Lib.hid ((hoz.only kst (fun b hb hm=>by have:=hoz.lo b hb;simp at hm;omega)).mono (by omega));have HDz2:=Lib.hid ((HDz.out.trans hd7).only kst (fun b hb=>by simp at hb;omega));have hzst:=kst.size;obtain⟨k3,k4,_,_,_,_,_,_,_,_,_,_,_,_,_,_,_,_⟩:=HP7.out;clear hoz hd7 kst HLz;go_wp2_with fail
   clear k3 k4;generalize w7c.setCell ⟨fs,0,none⟩ (.slice va vl.length vc)=w9c at *;clear HPz HAz HBz HXz HDz HP7;have HPz:=HPz2;have HAz:=HAz2;have HBz:=HBz2;have HXz:=HXz2;have HDz:=HDz2;have HLz:=Lib.hid hz5;clear HPz2 HAz2 HBz2 HXz2 HDz2;go_wp2_with fail
   refine (hon.out 2 w9c HDz.out.st (by omega) (by omega)).mono ?_;rintro e wf ⟨b2,rfl,hcur,hg⟩;have ko:=grownBy_only hg;have HPf:=Lib.hid (HPz.out.only ko (fun b hb=>by simp at hb;omega));have HAf:=Lib.hid (HAz.out.only ko (fun b hb hm=>by simp at hb;have:=hm.1;omega));have HBf:=Lib.hid (HBz.out.only ko (fun b hb hm=>by simp at hb;have:=hm.1;omega));have HXf:=Lib.hid (HXz.out.only ko (fun b hb hm=>by have:=(HXz.out.lo b hb).1;simp at hm;omega));have HDf:=Lib.hid (HDz.out.draw hcur hg);have hwf:=HDf.out.size;have hwf3:=World.block_lt_of_cell? _ _ HPf.out.b0;clear hcur hg ko;obtain⟨g1,g2,g3,g4,g5,g6,g7,g8,g9,g10,g11,g12,g13,g14,g15,g16,g17,g18⟩:=HPf.out
   cases b2 with
   |true=>
    have HEND:Hid (∀wE,OnlyAt [rs,ra,rb] wf.drew wE→DrewP w S len cb (.returned (.tuple #[.agg #[.slice va vl.length vc],.agg #[.slice ya' yn' yc',.slice za' zn' zc'],.agg #[.slice aa an ac,.slice ba bn bc]])) wE):=Lib.hid (fun wE hk0=>by
     have hk:OnlyAt [rs,ra,rb] wf wE:=(OnlyAt.ofBelow [rs,ra,rb] ((Below.refl wf.heap.size wf).drew)).same hk0;have hks:=hk.size;have hlo:∀b∈[rs,ra,rb],b<W3.heap.size:=fun b hb=>by simp at hb;omega
     have hbk:=HDf.out.size;exact⟨_,vl,_,_,dB,_,_,da,rfl,(HXf.out.only hk (fun b hb hm=>by have:=(HXf.out.lo b hb).1;have:=hlo b hm;omega)).mono (by omega),HLz.out,(HBf.out.only hk (fun b hb hm=>by have:=hlo b hb;have:=hm.1;omega)).toN (fun b hb=>by have:=hb.1;omega) (by omega),HQz.out,(HAf.out.only hk (fun b hb hm=>by have:=hlo b hb;have:=hm.1;omega)).toN (fun b hb=>by have:=hb.1;omega) (by omega),⟨by have:=HQA.out.1;omega,by have:=HQA.out.2.1;omega,HQA.out.2.2⟩,HDf.out.only hk (fun b hm=>by simp at hm;omega)⟩)
    obtain⟨wd,hwd⟩:∃x,x=wf.drew:=⟨_,rfl⟩
    have hq:=(HPf.out.q7).below (Below.refl wf.heap.size wf).drew;have hko:OnlyAt [rs,ra,rb] wf.drew wf.drew:=OnlyAt.refl _ _;rw[←hwd] at hq hko HEND;clear g1 g2 g3 g4 g5 g6 g7 g8 g9 g10 g11 g12 g13 g14 g15 g16 g17 g18;have hdif:Dif7 rs ra rb fs fa fb:=⟨n1,n2,n3,⟨m2.1,by omega,m1.1⟩,⟨m2.2.1,by omega,m1.2.1⟩,⟨m2.2.2.1,by omega,m1.2.2.1⟩⟩;go_wp2_with fail
    clear HPf HAf HBf HXf HDf hwf hwf3 HPz HAz HBz HXz HDz HQz HLz HQA HXB LD HSB HSN hbl hon hsc hqu hne h2a hsa HS HBW K1 K2 K3 F1 F2 F3 HD3 HX1 HD4 HO4 HNA5 HNA HDA1 HD6 HO56 HO6 HX6 HQB HDB1 HQc;refine wp_region_noPanic ?_;refine wp_region_held_drew (S:=(fun w'=>w'.cell? ⟨fs,0,none⟩=some (.slice va vl.length vc)∧w'.cell? ⟨fa,0,none⟩=some (.slice aa an ac)∧w'.cell? ⟨fa,1,none⟩=some (.slice ba bn bc)∧w'.cell? ⟨fb,0,none⟩=some (.slice ya' yn' yc')∧w'.cell? ⟨fb,1,none⟩=some (.slice za' zn' zc'))) (by kernel_rfl) ?_ (fun hHeld=>?_)
    ·(try dsimp only)
     rw[←hwd];exact⟨hq.s0,hq.a0,hq.a1,hq.b0,hq.b1⟩
    refine wpAnyH_take (i:=0) (oi:=_) (v:=?_) rfl (by kernel_rfl) (by kernel_rfl) (by kernel_rfl) (fun _ _ _ h=>h) (Or.inl ⟨by rfl,?_⟩) (by assumption) ?_;rotate_left
    ·(intro w hSw;(try dsimp only at hSw);go_simp<;>with_reducible rfl)
    (try simp only[Act.put,List.setIfInBounds_toArray,List.set_cons_zero,List.set_cons_succ])
    refine wpAnyH_take (i:=1) (oi:=_) (v:=?_) rfl (by kernel_rfl) (by kernel_rfl) (by kernel_rfl) (fun _ _ _ h=>h) (Or.inl ⟨by rfl,?_⟩) (by assumption) ?_;rotate_left
    ·(intro w hSw;(try dsimp only at hSw);go_simp<;>with_reducible rfl)
    (try simp only[Act.put,List.setIfInBounds_toArray,List.set_cons_zero,List.set_cons_succ])
    refine wpAnyH_take (i:=2) (oi:=_) (v:=?_) rfl (by kernel_rfl) (by kernel_rfl) (by kernel_rfl) (fun _ _ _ h=>h) (Or.inl ⟨by rfl,?_⟩) (by assumption) ?_;rotate_left
    ·(intro w hSw;(try dsimp only at hSw);go_simp<;>with_reducible rfl)
    (try simp only[Act.put,List.setIfInBounds_toArray,List.set_cons_zero,List.set_cons_succ])
    clear hHeld;rw[←hwd];clear hwd;refine wpAnyH_ready (rs:=[3]) (by kernel_rfl) (by simp) ?_;refine AllReadyH.cons (o:=_) rfl (fun K hK=>?_) ?_
    ·obtain⟨e0,e1,e2,e3,e4,_,_,_,_,_,f0,f1,f2,f3,f4⟩:=id hq
     go_simp
     obtain⟨ws1,hw⟩:∃x,x=(wd.setCell ⟨rs,0,none⟩ (.slice va vl.length vc)):=⟨_,rfl⟩
     have hq1:=hq.setRs hdif (.slice va vl.length vc);have hko1:OnlyAt [rs,ra,rb] wd (wd.setCell ⟨rs,0,none⟩ (.slice va vl.length vc)):=hko.same ((OnlyAt.setCell _ _ _ _).wider (by simp));rw[←hw] at hq1 hko1 ⊢;clear hw e0 e1 e2 e3 e4 f0 f1 f2 f3 f4;refine hK.out _ _ ?_ (fun hHeld=>?_)
     ·(try dsimp only)
      exact⟨hq1.s0,hq1.a0,hq1.a1,hq1.b0,hq1.b1⟩
     clear hK K hHeld
     (try simp only[Act.put,List.setIfInBounds_toArray,List.set_cons_zero,List.set_cons_succ])
     refine wpAnyH_ready (rs:=[4]) (by kernel_rfl) (by simp) ?_;refine AllReadyH.cons (o:=_) rfl (fun K hK=>?_) ?_
     ·obtain⟨e0,e1,e2,e3,e4,_,_,_,_,_,f0,f1,f2,f3,f4⟩:=id hq1
      go_simp
      obtain⟨ws2,hw⟩:∃x,x=((ws1.setCell ⟨ra,0,none⟩ (.slice ya' yn' yc')).setCell ⟨ra,1,none⟩ (.slice za' zn' zc')):=⟨_,rfl⟩
      have hq2:=hq1.setRa hdif (.slice ya' yn' yc') (.slice za' zn' zc');have hko2:OnlyAt [rs,ra,rb] wd ((ws1.setCell ⟨ra,0,none⟩ (.slice ya' yn' yc')).setCell ⟨ra,1,none⟩ (.slice za' zn' zc')):=hko1.same (((OnlyAt.setCell _ _ _ _).same (OnlyAt.setCell _ _ _ _)).wider (by simp));rw[←hw] at hq2 hko2 ⊢;clear hw e0 e1 e2 e3 e4 f0 f1 f2 f3 f4;refine hK.out _ _ ?_ (fun hHeld=>?_)
      ·(try dsimp only)
       exact⟨hq2.s0,hq2.a0,hq2.a1,hq2.b0,hq2.b1⟩
      clear hK K hHeld
      (try simp only[Act.put,List.setIfInBounds_toArray,List.set_cons_zero,List.set_cons_succ])
      refine wpAnyH_ready (rs:=[5]) (by kernel_rfl) (by simp) ?_;refine AllReadyH.cons (o:=_) rfl (fun K hK=>?_) ?_
      ·obtain⟨e0,e1,e2,e3,e4,_,_,_,_,_,f0,f1,f2,f3,f4⟩:=id hq2
       go_simp
       obtain⟨ws3,hw⟩:∃x,x=((ws2.setCell ⟨rb,0,none⟩ (.slice aa an ac)).setCell ⟨rb,1,none⟩ (.slice ba bn bc)):=⟨_,rfl⟩
       have hq3:=hq2.setRb hdif (.slice aa an ac) (.slice ba bn bc);have hko3:OnlyAt [rs,ra,rb] wd ((ws2.setCell ⟨rb,0,none⟩ (.slice aa an ac)).setCell ⟨rb,1,none⟩ (.slice ba bn bc)):=hko2.same (((OnlyAt.setCell _ _ _ _).same (OnlyAt.setCell _ _ _ _)).wider (by simp));rw[←hw] at hq3 hko3 ⊢;clear hw e0 e1 e2 e3 e4 f0 f1 f2 f3 f4;refine hK.out _ _ ?_ (fun hHeld=>?_)
       ·(try dsimp only)
        exact⟨hq3.s0,hq3.a0,hq3.a1,hq3.b0,hq3.b1⟩
       clear hK K hHeld
       (try simp only[Act.put,List.setIfInBounds_toArray,List.set_cons_zero,List.set_cons_succ])
       refine wpAnyH_done (by kernel_rfl) ?_ _;refine NoPanic.normal ?_;go_wp2_with fail
       exact bodyPost_ret (v:=.tuple #[.agg #[.slice va vl.length vc],.agg #[.slice ya' yn' yc',.slice za' zn' zc'],.agg #[.slice aa an ac,.slice ba bn bc]]) (by simp[results,Tryz.results73,go_sem,hq3.rs0,hq3.ra0,hq3.ra1,hq3.rb0,hq3.rb1]) rfl (HEND.out _ hko3)
      exact AllReadyH.nil
     exact AllReadyH.nil
    exact AllReadyH.nil
   |false=>
    have HEND:Hid (∀wE,OnlyAt [rs,ra,rb] wf.drew wE→DrewP w S len cb (.returned (.tuple #[.agg #[.slice va vl.length vc],.agg #[.slice aa an ac,.slice ba bn bc],.agg #[.slice ya' yn' yc',.slice za' zn' zc']])) wE):=Lib.hid (fun wE hk0=>by
     have hk:OnlyAt [rs,ra,rb] wf wE:=(OnlyAt.ofBelow [rs,ra,rb] ((Below.refl wf.heap.size wf).drew)).same hk0;have hks:=hk.size;have hlo:∀b∈[rs,ra,rb],b<W3.heap.size:=fun b hb=>by simp at hb;omega
     have hbk:=HDf.out.size;exact⟨_,vl,_,_,da,_,_,dB,rfl,(HXf.out.only hk (fun b hb hm=>by have:=(HXf.out.lo b hb).1;have:=hlo b hm;omega)).mono (by omega),HLz.out,(HAf.out.only hk (fun b hb hm=>by have:=hlo b hb;have:=hm.1;omega)).toN (fun b hb=>by have:=hb.1;omega) (by omega),⟨by have:=HQA.out.1;omega,by have:=HQA.out.2.1;omega,HQA.out.2.2⟩,(HBf.out.only hk (fun b hb hm=>by have:=hlo b hb;have:=hm.1;omega)).toN (fun b hb=>by have:=hb.1;omega) (by omega),HQz.out,HDf.out.only hk (fun b hm=>by simp at hm;omega)⟩)
    obtain⟨wd,hwd⟩:∃x,x=wf.drew:=⟨_,rfl⟩
    have hq:=(HPf.out.q7).below (Below.refl wf.heap.size wf).drew;have hko:OnlyAt [rs,ra,rb] wf.drew wf.drew:=OnlyAt.refl _ _;rw[←hwd] at hq hko HEND;clear g1 g2 g3 g4 g5 g6 g7 g8 g9 g10 g11 g12 g13 g14 g15 g16 g17 g18;have hdif:Dif7 rs ra rb fs fa fb:=⟨n1,n2,n3,⟨m2.1,by omega,m1.1⟩,⟨m2.2.1,by omega,m1.2.1⟩,⟨m2.2.2.1,by omega,m1.2.2.1⟩⟩;go_wp2_with fail
    clear HPf HAf HBf HXf HDf hwf hwf3 HPz HAz HBz HXz HDz HQz HLz HQA HXB LD HSB HSN hbl hon hsc hqu hne h2a hsa HS HBW K1 K2 K3 F1 F2 F3 HD3 HX1 HD4 HO4 HNA5 HNA HDA1 HD6 HO56 HO6 HX6 HQB HDB1 HQc;refine wp_region_noPanic ?_;refine wp_region_held_drew (S:=(fun w'=>w'.cell? ⟨fs,0,none⟩=some (.slice va vl.length vc)∧w'.cell? ⟨fa,0,none⟩=some (.slice aa an ac)∧w'.cell? ⟨fa,1,none⟩=some (.slice ba bn bc)∧w'.cell? ⟨fb,0,none⟩=some (.slice ya' yn' yc')∧w'.cell? ⟨fb,1,none⟩=some (.slice za' zn' zc'))) (by kernel_rfl) ?_ (fun hHeld=>?_)
    ·(try dsimp only)
     rw[←hwd];exact⟨hq.s0,hq.a0,hq.a1,hq.b0,hq.b1⟩
    refine wpAnyH_take (i:=0) (oi:=_) (v:=?_) rfl (by kernel_rfl) (by kernel_rfl) (by kernel_rfl) (fun _ _ _ h=>h) (Or.inl ⟨by rfl,?_⟩) (by assumption) ?_;rotate_left
    ·(intro w hSw;(try dsimp only at hSw);go_simp<;>with_reducible rfl)
    (try simp only[Act.put,List.setIfInBounds_toArray,List.set_cons_zero,List.set_cons_succ])
    refine wpAnyH_take (i:=1) (oi:=_) (v:=?_) rfl (by kernel_rfl) (by kernel_rfl) (by kernel_rfl) (fun _ _ _ h=>h) (Or.inl ⟨by rfl,?_⟩) (by assumption) ?_;rotate_left
    ·(intro w hSw;(try dsimp only at hSw);go_simp<;>with_reducible rfl)
    (try simp only[Act.put,List.setIfInBounds_toArray,List.set_cons_zero,List.set_cons_succ])
    refine wpAnyH_take (i:=2) (oi:=_) (v:=?_) rfl (by kernel_rfl) (by kernel_rfl) (by kernel_rfl) (fun _ _ _ h=>h) (Or.inl ⟨by rfl,?_⟩) (by assumption) ?_;rotate_left
    ·(intro w hSw;(try dsimp only at hSw);go_simp<;>with_reducible rfl)
    (try simp only[Act.put,List.setIfInBounds_toArray,List.set_cons_zero,List.set_cons_succ])
    clear hHeld;rw[←hwd];clear hwd;refine wpAnyH_ready (rs:=[3]) (by kernel_rfl) (by simp) ?_;refine AllReadyH.cons (o:=_) rfl (fun K hK=>?_) ?_
    ·obtain⟨e0,e1,e2,e3,e4,_,_,_,_,_,f0,f1,f2,f3,f4⟩:=id hq
     go_simp
     obtain⟨ws1,hw⟩:∃x,x=(wd.setCell ⟨rs,0,none⟩ (.slice va vl.length vc)):=⟨_,rfl⟩
     have hq1:=hq.setRs hdif (.slice va vl.length vc);have hko1:OnlyAt [rs,ra,rb] wd (wd.setCell ⟨rs,0,none⟩ (.slice va vl.length vc)):=hko.same ((OnlyAt.setCell _ _ _ _).wider (by simp));rw[←hw] at hq1 hko1 ⊢;clear hw e0 e1 e2 e3 e4 f0 f1 f2 f3 f4;refine hK.out _ _ ?_ (fun hHeld=>?_)
     ·(try dsimp only)
      exact⟨hq1.s0,hq1.a0,hq1.a1,hq1.b0,hq1.b1⟩
     clear hK K hHeld
     (try simp only[Act.put,List.setIfInBounds_toArray,List.set_cons_zero,List.set_cons_succ])
     refine wpAnyH_ready (rs:=[4]) (by kernel_rfl) (by simp) ?_;refine AllReadyH.cons (o:=_) rfl (fun K hK=>?_) ?_
     ·obtain⟨e0,e1,e2,e3,e4,_,_,_,_,_,f0,f1,f2,f3,f4⟩:=id hq1
      go_simp
      obtain⟨ws2,hw⟩:∃x,x=((ws1.setCell ⟨ra,0,none⟩ (.slice aa an ac)).setCell ⟨ra,1,none⟩ (.slice ba bn bc)):=⟨_,rfl⟩
      have hq2:=hq1.setRa hdif (.slice aa an ac) (.slice ba bn bc);have hko2:OnlyAt [rs,ra,rb] wd ((ws1.setCell ⟨ra,0,none⟩ (.slice aa an ac)).setCell ⟨ra,1,none⟩ (.slice ba bn bc)):=hko1.same (((OnlyAt.setCell _ _ _ _).same (OnlyAt.setCell _ _ _ _)).wider (by simp));rw[←hw] at hq2 hko2 ⊢;clear hw e0 e1 e2 e3 e4 f0 f1 f2 f3 f4;refine hK.out _ _ ?_ (fun hHeld=>?_)
      ·(try dsimp only)
       exact⟨hq2.s0,hq2.a0,hq2.a1,hq2.b0,hq2.b1⟩
      clear hK K hHeld
      (try simp only[Act.put,List.setIfInBounds_toArray,List.set_cons_zero,List.set_cons_succ])
      refine wpAnyH_ready (rs:=[5]) (by kernel_rfl) (by simp) ?_;refine AllReadyH.cons (o:=_) rfl (fun K hK=>?_) ?_
      ·obtain⟨e0,e1,e2,e3,e4,_,_,_,_,_,f0,f1,f2,f3,f4⟩:=id hq2
       go_simp
       obtain⟨ws3,hw⟩:∃x,x=((ws2.setCell ⟨rb,0,none⟩ (.slice ya' yn' yc')).setCell ⟨rb,1,none⟩ (.slice za' zn' zc')):=⟨_,rfl⟩
       have hq3:=hq2.setRb hdif (.slice ya' yn' yc') (.slice za' zn' zc');have hko3:OnlyAt [rs,ra,rb] wd ((ws2.setCell ⟨rb,0,none⟩ (.slice ya' yn' yc')).setCell ⟨rb,1,none⟩ (.slice za' zn' zc')):=hko2.same (((OnlyAt.setCell _ _ _ _).same (OnlyAt.setCell _ _ _ _)).wider (by simp));rw[←hw] at hq3 hko3 ⊢;clear hw e0 e1 e2 e3 e4 f0 f1 f2 f3 f4;refine hK.out _ _ ?_ (fun hHeld=>?_)
       ·(try dsimp only)
        exact⟨hq3.s0,hq3.a0,hq3.a1,hq3.b0,hq3.b1⟩
       clear hK K hHeld
       (try simp only[Act.put,List.setIfInBounds_toArray,List.set_cons_zero,List.set_cons_succ])
       refine wpAnyH_done (by kernel_rfl) ?_ _;refine NoPanic.normal ?_;go_wp2_with fail
       exact bodyPost_ret (v:=.tuple #[.agg #[.slice va vl.length vc],.agg #[.slice aa an ac,.slice ba bn bc],.agg #[.slice ya' yn' yc',.slice za' zn' zc']]) (by simp[results,Tryz.results73,go_sem,hq3.rs0,hq3.ra0,hq3.ra1,hq3.rb0,hq3.rb1]) rfl (HEND.out _ hko3)
      exact AllReadyH.nil
     exact AllReadyH.nil
    exact AllReadyH.nil
  ·have p0:decide (x=0)=false:=decide_eq_false (by omega);have p1:decide (x=1)=false:=decide_eq_false (by omega);have p0':(x==0)=false:=by simp;omega
   have p1':(x==1)=false:=by simp;omega
   go_wp2_with fail
   refine (hon.out 2 w11 HDz.out.st (by omega) (by omega)).mono ?_;rintro e wf ⟨b2,rfl,hcur,hg⟩;have ko:=grownBy_only hg;have HPf:=Lib.hid (HPz.out.only ko (fun b hb=>by simp at hb;omega));have HAf:=Lib.hid (HAz.out.only ko (fun b hb hm=>by simp at hb;have:=hm.1;omega));have HBf:=Lib.hid (HBz.out.only ko (fun b hb hm=>by simp at hb;have:=hm.1;omega));have HXf:=Lib.hid (HXz.out.only ko (fun b hb hm=>by have:=(HXz.out.lo b hb).1;simp at hm;omega));have HDf:=Lib.hid (HDz.out.draw hcur hg);have hwf:=HDf.out.size;have hwf3:=World.block_lt_of_cell? _ _ HPf.out.b0;clear hcur hg ko;obtain⟨g1,g2,g3,g4,g5,g6,g7,g8,g9,g10,g11,g12,g13,g14,g15,g16,g17,g18⟩:=HPf.out
   cases b2 with
   |true=>
    have HEND:Hid (∀wE,OnlyAt [rs,ra,rb] wf.drew wE→DrewP w S len cb (.returned (.tuple #[.agg #[.slice xa sn xc],.agg #[.slice ya' yn' yc',.slice za' zn' zc'],.agg #[.slice aa an ac,.slice ba bn bc]])) wE):=Lib.hid (fun wE hk0=>by
     have hk:OnlyAt [rs,ra,rb] wf wE:=(OnlyAt.ofBelow [rs,ra,rb] ((Below.refl wf.heap.size wf).drew)).same hk0;have hks:=hk.size;have hlo:∀b∈[rs,ra,rb],b<W3.heap.size:=fun b hb=>by simp at hb;omega
     have hbk:=HDf.out.size;exact⟨_,s,_,_,dB,_,_,da,rfl,(HXf.out.only hk (fun b hb hm=>by have:=(HXf.out.lo b hb).1;have:=hlo b hm;omega)).mono (by omega),HLz.out,(HBf.out.only hk (fun b hb hm=>by have:=hlo b hb;have:=hm.1;omega)).toN (fun b hb=>by have:=hb.1;omega) (by omega),HQz.out,(HAf.out.only hk (fun b hb hm=>by have:=hlo b hb;have:=hm.1;omega)).toN (fun b hb=>by have:=hb.1;omega) (by omega),⟨by have:=HQA.out.1;omega,by have:=HQA.out.2.1;omega,HQA.out.2.2⟩,HDf.out.only hk (fun b hm=>by simp at hm;omega)⟩)
    obtain⟨wd,hwd⟩:∃x,x=wf.drew:=⟨_,rfl⟩
    have hq:=(HPf.out.q7).below (Below.refl wf.heap.size wf).drew;have hko:OnlyAt [rs,ra,rb] wf.drew wf.drew:=OnlyAt.refl _ _;rw[←hwd] at hq hko HEND;clear g1 g2 g3 g4 g5 g6 g7 g8 g9 g10 g11 g12 g13 g14 g15 g16 g17 g18;have hdif:Dif7 rs ra rb fs fa fb:=⟨n1,n2,n3,⟨m2.1,by omega,m1.1⟩,⟨m2.2.1,by omega,m1.2.1⟩,⟨m2.2.2.1,by omega,m1.2.2.1⟩⟩;go_wp2_with fail
    clear HPf HAf HBf HXf HDf hwf hwf3 HPz HAz HBz HXz HDz HQz HLz HQA HXB LD HSB HSN hbl hon hsc hqu hne h2a hsa HS HBW K1 K2 K3 F1 F2 F3 HD3 HX1 HD4 HO4 HNA5 HNA HDA1 HD6 HO56 HO6 HX6 HQB HDB1 HQc;refine wp_region_noPanic ?_;refine wp_region_held_drew (S:=(fun w'=>w'.cell? ⟨fs,0,none⟩=some (.slice xa sn xc)∧w'.cell? ⟨fa,0,none⟩=some (.slice aa an ac)∧w'.cell? ⟨fa,1,none⟩=some (.slice ba bn bc)∧w'.cell? ⟨fb,0,none⟩=some (.slice ya' yn' yc')∧w'.cell? ⟨fb,1,none⟩=some (.slice za' zn' zc'))) (by kernel_rfl) ?_ (fun hHeld=>?_)
    ·(try dsimp only)
     rw[←hwd];exact⟨hq.s0,hq.a0,hq.a1,hq.b0,hq.b1⟩
    refine wpAnyH_take (i:=0) (oi:=_) (v:=?_) rfl (by kernel_rfl) (by kernel_rfl) (by kernel_rfl) (fun _ _ _ h=>h) (Or.inl ⟨by rfl,?_⟩) (by assumption) ?_;rotate_left
    ·(intro w hSw;(try dsimp only at hSw);go_simp<;>with_reducible rfl)
    (try simp only[Act.put,List.setIfInBounds_toArray,List.set_cons_zero,List.set_cons_succ])
    refine wpAnyH_take (i:=1) (oi:=_) (v:=?_) rfl (by kernel_rfl) (by kernel_rfl) (by kernel_rfl) (fun _ _ _ h=>h) (Or.inl ⟨by rfl,?_⟩) (by assumption) ?_;rotate_left
    ·(intro w hSw;(try dsimp only at hSw);go_simp<;>with_reducible rfl)
    (try simp only[Act.put,List.setIfInBounds_toArray,List.set_cons_zero,List.set_cons_succ])
    refine wpAnyH_take (i:=2) (oi:=_) (v:=?_) rfl (by kernel_rfl) (by kernel_rfl) (by kernel_rfl) (fun _ _ _ h=>h) (Or.inl ⟨by rfl,?_⟩) (by assumption) ?_;rotate_left
    ·(intro w hSw;(try dsimp only at hSw);go_simp<;>with_reducible rfl)
    (try simp only[Act.put,List.setIfInBounds_toArray,List.set_cons_zero,List.set_cons_succ])
    clear hHeld;rw[←hwd];clear hwd;refine wpAnyH_ready (rs:=[3]) (by kernel_rfl) (by simp) ?_;refine AllReadyH.cons (o:=_) rfl (fun K hK=>?_) ?_
    ·obtain⟨e0,e1,e2,e3,e4,_,_,_,_,_,f0,f1,f2,f3,f4⟩:=id hq
     go_simp
     obtain⟨ws1,hw⟩:∃x,x=(wd.setCell ⟨rs,0,none⟩ (.slice xa sn xc)):=⟨_,rfl⟩
     have hq1:=hq.setRs hdif (.slice xa sn xc);have hko1:OnlyAt [rs,ra,rb] wd (wd.setCell ⟨rs,0,none⟩ (.slice xa sn xc)):=hko.same ((OnlyAt.setCell _ _ _ _).wider (by simp));rw[←hw] at hq1 hko1 ⊢;clear hw e0 e1 e2 e3 e4 f0 f1 f2 f3 f4;refine hK.out _ _ ?_ (fun hHeld=>?_)
     ·(try dsimp only)
      exact⟨hq1.s0,hq1.a0,hq1.a1,hq1.b0,hq1.b1⟩
     clear hK K hHeld
     (try simp only[Act.put,List.setIfInBounds_toArray,List.set_cons_zero,List.set_cons_succ])
     refine wpAnyH_ready (rs:=[4]) (by kernel_rfl) (by simp) ?_;refine AllReadyH.cons (o:=_) rfl (fun K hK=>?_) ?_
     ·obtain⟨e0,e1,e2,e3,e4,_,_,_,_,_,f0,f1,f2,f3,f4⟩:=id hq1
      go_simp
      obtain⟨ws2,hw⟩:∃x,x=((ws1.setCell ⟨ra,0,none⟩ (.slice ya' yn' yc')).setCell ⟨ra,1,none⟩ (.slice za' zn' zc')):=⟨_,rfl⟩
      have hq2:=hq1.setRa hdif (.slice ya' yn' yc') (.slice za' zn' zc');have hko2:OnlyAt [rs,ra,rb] wd ((ws1.setCell ⟨ra,0,none⟩ (.slice ya' yn' yc')).setCell ⟨ra,1,none⟩ (.slice za' zn' zc')):=hko1.same (((OnlyAt.setCell _ _ _ _).same (OnlyAt.setCell _ _ _ _)).wider (by simp));rw[←hw] at hq2 hko2 ⊢;clear hw e0 e1 e2 e3 e4 f0 f1 f2 f3 f4;refine hK.out _ _ ?_ (fun hHeld=>?_)
      ·(try dsimp only)
       exact⟨hq2.s0,hq2.a0,hq2.a1,hq2.b0,hq2.b1⟩
      clear hK K hHeld
      (try simp only[Act.put,List.setIfInBounds_toArray,List.set_cons_zero,List.set_cons_succ])
      refine wpAnyH_ready (rs:=[5]) (by kernel_rfl) (by simp) ?_;refine AllReadyH.cons (o:=_) rfl (fun K hK=>?_) ?_
      ·obtain⟨e0,e1,e2,e3,e4,_,_,_,_,_,f0,f1,f2,f3,f4⟩:=id hq2
       go_simp
       obtain⟨ws3,hw⟩:∃x,x=((ws2.setCell ⟨rb,0,none⟩ (.slice aa an ac)).setCell ⟨rb,1,none⟩ (.slice ba bn bc)):=⟨_,rfl⟩
       have hq3:=hq2.setRb hdif (.slice aa an ac) (.slice ba bn bc);have hko3:OnlyAt [rs,ra,rb] wd ((ws2.setCell ⟨rb,0,none⟩ (.slice aa an ac)).setCell ⟨rb,1,none⟩ (.slice ba bn bc)):=hko2.same (((OnlyAt.setCell _ _ _ _).same (OnlyAt.setCell _ _ _ _)).wider (by simp));rw[←hw] at hq3 hko3 ⊢;clear hw e0 e1 e2 e3 e4 f0 f1 f2 f3 f4;refine hK.out _ _ ?_ (fun hHeld=>?_)
       ·(try dsimp only)
        exact⟨hq3.s0,hq3.a0,hq3.a1,hq3.b0,hq3.b1⟩
       clear hK K hHeld
       (try simp only[Act.put,List.setIfInBounds_toArray,List.set_cons_zero,List.set_cons_succ])
       refine wpAnyH_done (by kernel_rfl) ?_ _;refine NoPanic.normal ?_;go_wp2_with fail
       exact bodyPost_ret (v:=.tuple #[.agg #[.slice xa sn xc],.agg #[.slice ya' yn' yc',.slice za' zn' zc'],.agg #[.slice aa an ac,.slice ba bn bc]]) (by simp[results,Tryz.results73,go_sem,hq3.rs0,hq3.ra0,hq3.ra1,hq3.rb0,hq3.rb1]) rfl (HEND.out _ hko3)
      exact AllReadyH.nil
     exact AllReadyH.nil
    exact AllReadyH.nil
   |false=>
    have HEND:Hid (∀wE,OnlyAt [rs,ra,rb] wf.drew wE→DrewP w S len cb (.returned (.tuple #[.agg #[.slice xa sn xc],.agg #[.slice aa an ac,.slice ba bn bc],.agg #[.slice ya' yn' yc',.slice za' zn' zc']])) wE):=Lib.hid (fun wE hk0=>by
     have hk:OnlyAt [rs,ra,rb] wf wE:=(OnlyAt.ofBelow [rs,ra,rb] ((Below.refl wf.heap.size wf).drew)).same hk0;have hks:=hk.size;have hlo:∀b∈[rs,ra,rb],b<W3.heap.size:=fun b hb=>by simp at hb;omega
     have hbk:=HDf.out.size;exact⟨_,s,_,_,da,_,_,dB,rfl,(HXf.out.only hk (fun b hb hm=>by have:=(HXf.out.lo b hb).1;have:=hlo b hm;omega)).mono (by omega),HLz.out,(HAf.out.only hk (fun b hb hm=>by have:=hlo b hb;have:=hm.1;omega)).toN (fun b hb=>by have:=hb.1;omega) (by omega),⟨by have:=HQA.out.1;omega,by have:=HQA.out.2.1;omega,HQA.out.2.2⟩,(HBf.out.only hk (fun b hb hm=>by have:=hlo b hb;have:=hm.1;omega)).toN (fun b hb=>by have:=hb.1;omega) (by omega),HQz.out,HDf.out.only hk (fun b hm=>by simp at hm;omega)⟩)
    obtain⟨wd,hwd⟩:∃x,x=wf.drew:=⟨_,rfl⟩
    have hq:=(HPf.out.q7).below (Below.refl wf.heap.size wf).drew;have hko:OnlyAt [rs,ra,rb] wf.drew wf.drew:=OnlyAt.refl _ _;rw[←hwd] at hq hko HEND;clear g1 g2 g3 g4 g5 g6 g7 g8 g9 g10 g11 g12 g13 g14 g15 g16 g17 g18;have hdif:Dif7 rs ra rb fs fa fb:=⟨n1,n2,n3,⟨m2.1,by omega,m1.1⟩,⟨m2.2.1,by omega,m1.2.1⟩,⟨m2.2.2.1,by omega,m1.2.2.1⟩⟩;go_wp2_with fail
    clear HPf HAf HBf HXf HDf hwf hwf3 HPz HAz HBz HXz HDz HQz HLz HQA HXB LD HSB HSN hbl hon hsc hqu hne h2a hsa HS HBW K1 K2 K3 F1 F2 F3 HD3 HX1 HD4 HO4 HNA5 HNA HDA1 HD6 HO56 HO6 HX6 HQB HDB1 HQc;refine wp_region_noPanic ?_;refine wp_region_held_drew (S:=(fun w'=>w'.cell? ⟨fs,0,none⟩=some (.slice xa sn xc)∧w'.cell? ⟨fa,0,none⟩=some (.slice aa an ac)∧w'.cell? ⟨fa,1,none⟩=some (.slice ba bn bc)∧w'.cell? ⟨fb,0,none⟩=some (.slice ya' yn' yc')∧w'.cell? ⟨fb,1,none⟩=some (.slice za' zn' zc'))) (by kernel_rfl) ?_ (fun hHeld=>?_)
    ·(try dsimp only)
     rw[←hwd];exact⟨hq.s0,hq.a0,hq.a1,hq.b0,hq.b1⟩
    refine wpAnyH_take (i:=0) (oi:=_) (v:=?_) rfl (by kernel_rfl) (by kernel_rfl) (by kernel_rfl) (fun _ _ _ h=>h) (Or.inl ⟨by rfl,?_⟩) (by assumption) ?_;rotate_left
    ·(intro w hSw;(try dsimp only at hSw);go_simp<;>with_reducible rfl)
    (try simp only[Act.put,List.setIfInBounds_toArray,List.set_cons_zero,List.set_cons_succ])
    refine wpAnyH_take (i:=1) (oi:=_) (v:=?_) rfl (by kernel_rfl) (by kernel_rfl) (by kernel_rfl) (fun _ _ _ h=>h) (Or.inl ⟨by rfl,?_⟩) (by assumption) ?_;rotate_left
    ·(intro w hSw;(try dsimp only at hSw);go_simp<;>with_reducible rfl)
    (try simp only[Act.put,List.setIfInBounds_toArray,List.set_cons_zero,List.set_cons_succ])
    refine wpAnyH_take (i:=2) (oi:=_) (v:=?_) rfl (by kernel_rfl) (by kernel_rfl) (by kernel_rfl) (fun _ _ _ h=>h) (Or.inl ⟨by rfl,?_⟩) (by assumption) ?_;rotate_left
    ·(intro w hSw;(try dsimp only at hSw);go_simp<;>with_reducible rfl)
    (try simp only[Act.put,List.setIfInBounds_toArray,List.set_cons_zero,List.set_cons_succ])
    clear hHeld;rw[←hwd];clear hwd;refine wpAnyH_ready (rs:=[3]) (by kernel_rfl) (by simp) ?_;refine AllReadyH.cons (o:=_) rfl (fun K hK=>?_) ?_
    ·obtain⟨e0,e1,e2,e3,e4,_,_,_,_,_,f0,f1,f2,f3,f4⟩:=id hq
     go_simp
     obtain⟨ws1,hw⟩:∃x,x=(wd.setCell ⟨rs,0,none⟩ (.slice xa sn xc)):=⟨_,rfl⟩
     have hq1:=hq.setRs hdif (.slice xa sn xc);have hko1:OnlyAt [rs,ra,rb] wd (wd.setCell ⟨rs,0,none⟩ (.slice xa sn xc)):=hko.same ((OnlyAt.setCell _ _ _ _).wider (by simp));rw[←hw] at hq1 hko1 ⊢;clear hw e0 e1 e2 e3 e4 f0 f1 f2 f3 f4;refine hK.out _ _ ?_ (fun hHeld=>?_)
     ·(try dsimp only)
      exact⟨hq1.s0,hq1.a0,hq1.a1,hq1.b0,hq1.b1⟩
     clear hK K hHeld
     (try simp only[Act.put,List.setIfInBounds_toArray,List.set_cons_zero,List.set_cons_succ])
     refine wpAnyH_ready (rs:=[4]) (by kernel_rfl) (by simp) ?_;refine AllReadyH.cons (o:=_) rfl (fun K hK=>?_) ?_
     ·obtain⟨e0,e1,e2,e3,e4,_,_,_,_,_,f0,f1,f2,f3,f4⟩:=id hq1
      go_simp
      obtain⟨ws2,hw⟩:∃x,x=((ws1.setCell ⟨ra,0,none⟩ (.slice aa an ac)).setCell ⟨ra,1,none⟩ (.slice ba bn bc)):=⟨_,rfl⟩
      have hq2:=hq1.setRa hdif (.slice aa an ac) (.slice ba bn bc);have hko2:OnlyAt [rs,ra,rb] wd ((ws1.setCell ⟨ra,0,none⟩ (.slice aa an ac)).setCell ⟨ra,1,none⟩ (.slice ba bn bc)):=hko1.same (((OnlyAt.setCell _ _ _ _).same (OnlyAt.setCell _ _ _ _)).wider (by simp));rw[←hw] at hq2 hko2 ⊢;clear hw e0 e1 e2 e3 e4 f0 f1 f2 f3 f4;refine hK.out _ _ ?_ (fun hHeld=>?_)
      ·(try dsimp only)
       exact⟨hq2.s0,hq2.a0,hq2.a1,hq2.b0,hq2.b1⟩
      clear hK K hHeld
      (try simp only[Act.put,List.setIfInBounds_toArray,List.set_cons_zero,List.set_cons_succ])
      refine wpAnyH_ready (rs:=[5]) (by kernel_rfl) (by simp) ?_;refine AllReadyH.cons (o:=_) rfl (fun K hK=>?_) ?_
      ·obtain⟨e0,e1,e2,e3,e4,_,_,_,_,_,f0,f1,f2,f3,f4⟩:=id hq2
       go_simp
       obtain⟨ws3,hw⟩:∃x,x=((ws2.setCell ⟨rb,0,none⟩ (.slice ya' yn' yc')).setCell ⟨rb,1,none⟩ (.slice za' zn' zc')):=⟨_,rfl⟩
       have hq3:=hq2.setRb hdif (.slice ya' yn' yc') (.slice za' zn' zc');have hko3:OnlyAt [rs,ra,rb] wd ((ws2.setCell ⟨rb,0,none⟩ (.slice ya' yn' yc')).setCell ⟨rb,1,none⟩ (.slice za' zn' zc')):=hko2.same (((OnlyAt.setCell _ _ _ _).same (OnlyAt.setCell _ _ _ _)).wider (by simp));rw[←hw] at hq3 hko3 ⊢;clear hw e0 e1 e2 e3 e4 f0 f1 f2 f3 f4;refine hK.out _ _ ?_ (fun hHeld=>?_)
       ·(try dsimp only)
        exact⟨hq3.s0,hq3.a0,hq3.a1,hq3.b0,hq3.b1⟩
       clear hK K hHeld
       (try simp only[Act.put,List.setIfInBounds_toArray,List.set_cons_zero,List.set_cons_succ])
       refine wpAnyH_done (by kernel_rfl) ?_ _;refine NoPanic.normal ?_;go_wp2_with fail
       exact bodyPost_ret (v:=.tuple #[.agg #[.slice xa sn xc],.agg #[.slice aa an ac,.slice ba bn bc],.agg #[.slice ya' yn' yc',.slice za' zn' zc']]) (by simp[results,Tryz.results73,go_sem,hq3.rs0,hq3.ra0,hq3.ra1,hq3.rb0,hq3.rb1]) rfl (HEND.out _ hko3)
      exact AllReadyH.nil
     exact AllReadyH.nil
    exact AllReadyH.nil
theorem frz1_7 (w:World) (o2:Obj) (cs:Array Value) (T:TypeId) (o3:Obj) (i:Nat) (v:Value) (h:cs[i]?=some v):(((w.alloc (.cells cs T)).alloc o2).alloc o3).frozen? ⟨w.heap.size,i,none⟩=false:=by
 have h1:=newFrzN w cs T i;have c1:=newBox w cs T i _ h;have hb:=below_alloc (w.alloc (.cells cs T)) o2;exact frok (below_alloc _ _) (cellk hb c1) (frok hb c1 h1)
structure Q6 (rs rq fs fq:Nat) (w:World) (x0 x1 x2 sv hq bq:Value):Prop where
 rs0:w.cell? ⟨rs,0,none⟩=some x0
 rq0:w.cell? ⟨rq,0,none⟩=some x1
 rq1:w.cell? ⟨rq,1,none⟩=some x2
 s0:w.cell? ⟨fs,0,none⟩=some sv
 q0:w.cell? ⟨fq,0,none⟩=some hq
 q1:w.cell? ⟨fq,1,none⟩=some bq
 rf0:w.frozen? ⟨rs,0,none⟩=false
 rf1:w.frozen? ⟨rq,0,none⟩=false
 rf2:w.frozen? ⟨rq,1,none⟩=false
 sf:w.frozen? ⟨fs,0,none⟩=false
 qf0:w.frozen? ⟨fq,0,none⟩=false
 qf1:w.frozen? ⟨fq,1,none⟩=false
theorem box6q (w:World) (o1:Obj) (u v:Value) (T:TypeId):((w.alloc o1).alloc (.cells #[u,v] T)).cell? ⟨w.heap.size+1,0,none⟩=some u∧((w.alloc o1).alloc (.cells #[u,v] T)).cell? ⟨w.heap.size+1,1,none⟩=some v∧((w.alloc o1).alloc (.cells #[u,v] T)).frozen? ⟨w.heap.size+1,0,none⟩=false∧((w.alloc o1).alloc (.cells #[u,v] T)).frozen? ⟨w.heap.size+1,1,none⟩=false:=by
 have e:(w.alloc o1).heap.size=w.heap.size+1:=by simp
 have c0:=newBox (w.alloc o1) #[u,v] T 0 _ rfl;have c1:=newBox (w.alloc o1) #[u,v] T 1 _ rfl;have f0:=newFrzN (w.alloc o1) #[u,v] T 0;have f1:=newFrzN (w.alloc o1) #[u,v] T 1;rw[e] at c0 c1 f0 f1;exact⟨c0,c1,f0,f1⟩
def Dif6 (rs rq fs fq:Nat):Prop:=rs≠rq∧rs≠fs∧rs≠fq∧rq≠fs∧rq≠fq∧fs≠fq
theorem Q6.only {rs rq fs fq:Nat} {w w':World} {x0 x1 x2 sv hq bq:Value} {ds:List Nat} (h:Q6 rs rq fs fq w x0 x1 x2 sv hq bq) (ko:OnlyAt ds w w') (hn:∀b∈ds,b≠rs∧b≠rq∧b≠fs∧b≠fq):Q6 rs rq fs fq w' x0 x1 x2 sv hq bq:=by
 have lt:∀{b o:Nat} {v:Value},w.cell? ⟨b,o,none⟩=some v→b<w.heap.size:=fun hc=>World.block_lt_of_cell? w _ hc
 have n_rs:rs∉ds:=fun hm=>(hn _ hm).1 rfl
 have n_rq:rq∉ds:=fun hm=>(hn _ hm).2.1 rfl
 have n_fs:fs∉ds:=fun hm=>(hn _ hm).2.2.1 rfl
 have n_fq:fq∉ds:=fun hm=>(hn _ hm).2.2.2 rfl
 exact⟨ko.cell n_rs h.rs0,ko.cell n_rq h.rq0,ko.cell n_rq h.rq1,ko.cell n_fs h.s0,ko.cell n_fq h.q0,ko.cell n_fq h.q1,ko.frozen (lt h.rs0) n_rs h.rf0,ko.frozen (lt h.rq0) n_rq h.rf1,ko.frozen (lt h.rq1) n_rq h.rf2,ko.frozen (lt h.s0) n_fs h.sf,ko.frozen (lt h.q0) n_fq h.qf0,ko.frozen (lt h.q1) n_fq h.qf1⟩
theorem Q6.below {rs rq fs fq:Nat} {w w':World} {x0 x1 x2 sv hq bq:Value} (h:Q6 rs rq fs fq w x0 x1 x2 sv hq bq) (hb:Below w.heap.size w w'):Q6 rs rq fs fq w' x0 x1 x2 sv hq bq:=h.only (OnlyAt.ofBelow [] hb) (fun b hm=>by simp at hm)
theorem Q6.setRs {rs rq fs fq:Nat} {w:World} {x0 x1 x2 sv hq bq:Value} (h:Q6 rs rq fs fq w x0 x1 x2 sv hq bq) (d:Dif6 rs rq fs fq) (y0:Value):Q6 rs rq fs fq (w.setCell ⟨rs,0,none⟩ y0) y0 x1 x2 sv hq bq:=by
 obtain⟨n1,n2,n3,n4,n5,n6⟩:=d;exact⟨World.cell?_setCell_same _ _ _ (h.rs0),cell_ne7 (by omega) (h.rq0),cell_ne7 (by omega) (h.rq1),cell_ne7 (by omega) (h.s0),cell_ne7 (by omega) (h.q0),cell_ne7 (by omega) (h.q1),frz_set7 (h.rf0),frz_set7 (h.rf1),frz_set7 (h.rf2),frz_set7 (h.sf),frz_set7 (h.qf0),frz_set7 (h.qf1)⟩
theorem Q6.setRq {rs rq fs fq:Nat} {w:World} {x0 x1 x2 sv hq bq:Value} (h:Q6 rs rq fs fq w x0 x1 x2 sv hq bq) (d:Dif6 rs rq fs fq) (y0:Value) (y1:Value):Q6 rs rq fs fq ((w.setCell ⟨rq,0,none⟩ y0).setCell ⟨rq,1,none⟩ y1) x0 y0 y1 sv hq bq:=by
 obtain⟨n1,n2,n3,n4,n5,n6⟩:=d;exact⟨cell_ne7 (by omega) (cell_ne7 (by omega) (h.rs0)),cell_no7 (by omega) (World.cell?_setCell_same _ _ _ (h.rq0)),World.cell?_setCell_same _ _ _ (cell_no7 (by omega) (h.rq1)),cell_ne7 (by omega) (cell_ne7 (by omega) (h.s0)),cell_ne7 (by omega) (cell_ne7 (by omega) (h.q0)),cell_ne7 (by omega) (cell_ne7 (by omega) (h.q1)),frz_set7 (frz_set7 (h.rf0)),frz_set7 (frz_set7 (h.rf1)),frz_set7 (frz_set7 (h.rf2)),frz_set7 (frz_set7 (h.sf)),frz_set7 (frz_set7 (h.qf0)),frz_set7 (frz_set7 (h.qf1))⟩
theorem Q6.setS {rs rq fs fq:Nat} {w:World} {x0 x1 x2 sv hq bq:Value} (h:Q6 rs rq fs fq w x0 x1 x2 sv hq bq) (d:Dif6 rs rq fs fq) (y0:Value):Q6 rs rq fs fq (w.setCell ⟨fs,0,none⟩ y0) x0 x1 x2 y0 hq bq:=by
 obtain⟨n1,n2,n3,n4,n5,n6⟩:=d;exact⟨cell_ne7 (by omega) (h.rs0),cell_ne7 (by omega) (h.rq0),cell_ne7 (by omega) (h.rq1),World.cell?_setCell_same _ _ _ (h.s0),cell_ne7 (by omega) (h.q0),cell_ne7 (by omega) (h.q1),frz_set7 (h.rf0),frz_set7 (h.rf1),frz_set7 (h.rf2),frz_set7 (h.sf),frz_set7 (h.qf0),frz_set7 (h.qf1)⟩
theorem Q6.setH {rs rq fs fq:Nat} {w:World} {x0 x1 x2 sv hq bq:Value} (h:Q6 rs rq fs fq w x0 x1 x2 sv hq bq) (d:Dif6 rs rq fs fq) (y0:Value):Q6 rs rq fs fq (w.setCell ⟨fq,0,none⟩ y0) x0 x1 x2 sv y0 bq:=by
 obtain⟨n1,n2,n3,n4,n5,n6⟩:=d;exact⟨cell_ne7 (by omega) (h.rs0),cell_ne7 (by omega) (h.rq0),cell_ne7 (by omega) (h.rq1),cell_ne7 (by omega) (h.s0),World.cell?_setCell_same _ _ _ (h.q0),cell_no7 (by omega) (h.q1),frz_set7 (h.rf0),frz_set7 (h.rf1),frz_set7 (h.rf2),frz_set7 (h.sf),frz_set7 (h.qf0),frz_set7 (h.qf1)⟩
def DrewD (w:World) (S:Value) (len cb:Nat) (e:Ending) (w':World):Prop:=
 ∃sv s hq bq d v l,e=.returned (.tuple #[.agg #[sv],.agg #[hq,bq],v])∧OwI w.heap.size w' sv s∧s.length≤5∧NearQ w.heap.size w' hq bq d∧QBd 3 4 d∧DFs w.heap.size w' v l∧l.length≤9∧(∀x∈l,x.2.length≤4)∧DSt w w' S len cb
def DrewDF (w:World) (e:Ending) (w':World):Prop:=∃sv s q d v l,e=.returned (.tuple #[sv,q,v])∧RdSchema w' sv s∧s.length≤5∧RdQuery w' q d∧QBd 3 4 d∧RdAtomS w' v l∧l.length≤9∧(∀x∈l,x.2.length≤4)∧Below w.heap.size w w'
theorem SBd.schemaB {s:List Int} (h:SBd s):isSchemaB s=true:=by
 obtain⟨h1,h2,h3⟩:=h;unfold isSchemaB inB;rw[Bool.and_eq_true];exact⟨List.all_eq_true.2 (fun x hx=>decide_eq_true (h3 x hx)),decide_eq_true (by omega)⟩
set_option maxRecDepth 100000 in
set_option maxHeartbeats 16000000 in
theorem l6Draw_any (w:World) (S:Value) (len cb:Nat) (h:St w S len cb) :
  Calls Tryz.prog 46 #[.pointer (some ⟨cb,0,none⟩)] w (DrewD w S len cb):=by
 have hbl:=Lib.hid (fun n w h h0 h1=>l1Below_any n w S len cb h h0 h1);have hsc:=Lib.hid (fun w h=>l3SchemaB_any w S len cb h);have hqu:=Lib.hid (fun w base sv s h hv hc hs=>l4Query_any1 w S len cb base sv s h hv hc hs);have hdb:=Lib.hid (fun w base sv s h hv hc hs=>l5Db_any w S len cb base sv s h hv hc hs);have haf:=Lib.hid (fun w base sv s h hv hc=>l5AnyFact_any w S len cb base sv s h hv hc);have h2a:=Lib.hid (fun w h=>l2Any_any w S len cb h);have hsa:=Lib.hid (fun w h=>l3Any_any w S len cb h);have HS:=Lib.hid h;have hcbw:=h.cb_lt;obtain⟨W2,hW2⟩:∃W2,W2=((w.alloc (.cells #[.slice none 0 0] 26)).alloc (.cells #[.slice none 0 0,.slice none 0 0] 29)):=⟨_,rfl⟩
 have hs2:W2.heap.size=w.heap.size+2:=by rw[hW2];simp
 have HBW:Hid (Below w.heap.size w W2):=by rw[hW2];exact Lib.hid (((Below.refl _ _).alloc (Nat.le_refl _) _).alloc (by simp) _)
 have K1:Hid (W2.cell? ⟨w.heap.size,0,none⟩=some (.slice none 0 0)∧W2.frozen? ⟨w.heap.size,0,none⟩=false):=by
  unfold Hid;rw[hW2];have c1:=newBox w #[.slice none 0 0] 26 0 _ rfl;exact⟨cellk (below_alloc _ _) c1,frok (below_alloc _ _) c1 (newFrzN w #[.slice none 0 0] 26 0)⟩
 have K2:Hid (W2.cell? ⟨w.heap.size+1,0,none⟩=some (.slice none 0 0)∧W2.cell? ⟨w.heap.size+1,1,none⟩=some (.slice none 0 0)∧W2.frozen? ⟨w.heap.size+1,0,none⟩=false∧W2.frozen? ⟨w.heap.size+1,1,none⟩=false):=by
  unfold Hid;rw[hW2];have e:(w.alloc (.cells #[.slice none 0 0] 26)).heap.size=w.heap.size+1:=by simp
  have c0:=newBox (w.alloc (.cells #[.slice none 0 0] 26)) #[.slice none 0 0,.slice none 0 0] 29 0 _ rfl;have c1:=newBox (w.alloc (.cells #[.slice none 0 0] 26)) #[.slice none 0 0,.slice none 0 0] 29 1 _ rfl;have f0:=newFrzN (w.alloc (.cells #[.slice none 0 0] 26)) #[.slice none 0 0,.slice none 0 0] 29 0;have f1:=newFrzN (w.alloc (.cells #[.slice none 0 0] 26)) #[.slice none 0 0,.slice none 0 0] 29 1;rw[e] at c0 c1 f0 f1;exact⟨c0,c1,f0,f1⟩
 have HD2:Hid (DSt w W2 S len cb):=Lib.hid ((DSt.start h).below HBW.out);clear h;go_enter Tryz.func46,Tryz.ntmps46
 go_wp2_with fail
 rw[←hW2];clear hW2;obtain⟨rs,hrs⟩:∃x,x=w.heap.size:=⟨_,rfl⟩
 obtain⟨rq,hrq⟩:∃x,x=w.heap.size+1:=⟨_,rfl⟩
 rw[←hrq] at K2;rw[←hrs] at K1;simp only[←hrq];simp only[←hrs];have l1:cb<rs:=by omega
 have l2:rs<rq:=by omega
 have l3:rq<W2.heap.size:=by omega
 have l9:w.heap.size≤rs:=by omega
 have lc:w.heap.size≤W2.heap.size:=by omega
 clear hrs hrq hs2 hcbw;refine (hsc.out _ HD2.out.st).mono ?_;rintro e w1 ⟨xv,s,rfl,how,hsb,hd1⟩;obtain⟨xa,xc,rfl⟩:=how.shape;obtain⟨sn,hsn⟩:∃n,s.length=n:=⟨_,rfl⟩
 have HSN:=Lib.hid hsn;have HSB:=Lib.hid hsb;rw[hsn] at how ⊢;have hb1:=below_alloc w1 (.cells #[.slice xa sn xc] 26);have hz1:=hd1.size;have HX1:=Lib.hid (how.below hb1);have HD4:=Lib.hid ((HD2.out.trans hd1).below hb1);have HO4:Hid (OnlyAt [cb] W2 (w1.alloc (.cells #[.slice xa sn xc] 26))):=Lib.hid (hd1.2.1.same (OnlyAt.ofBelow _ hb1));have ks:(w1.alloc (.cells #[.slice xa sn xc] 26)).cell? ⟨w1.heap.size,0,none⟩=some (.slice xa sn xc):=newBox w1 #[.slice xa sn xc] _ 0 _ rfl;have kf:=newFrzN w1 #[.slice xa sn xc] 26 0;have hz4:(w1.alloc (.cells #[.slice xa sn xc] 26)).heap.size=w1.heap.size+1:=by simp
 have HXB:Hid (∀b∈blk (.slice xa sn xc),W2.heap.size≤b∧b<w1.heap.size):=Lib.hid how.lo;clear how hsb hsn hd1 hb1;go_wp2_with fail
 obtain⟨fs,hfs⟩:∃x,x=w1.heap.size:=⟨_,rfl⟩
 rw[←hfs] at ks kf HXB ⊢;have l4:W2.heap.size≤fs:=by omega
 generalize (w1.alloc (.cells #[.slice xa sn xc] 26))=w4 at *;have l5:fs<w4.heap.size:=by omega
 clear hfs hz4 hz1;refine (hqu.out w4 W2.heap.size _ s HD4.out.st HX1.out (by omega) HSB.out).mono ?_;rintro e w5 ⟨hv,bv,d,T,rfl,hoh,hab,ht0,ht1,hqb,hd5,hda1⟩;have hna:NearQ w4.heap.size w5 hv bv d:=NearQ.ofDrew hoh hab ht0
 obtain⟨aa,an,ac,ba,bn,bc,rfl,rfl⟩:∃a n c a' n' c',hv=.slice a n c∧bv=.slice a' n' c':=by
  obtain⟨a,n,c,a',n',c',e,_⟩:=hna.rd
  cases e;exact⟨_,_,_,_,_,_,rfl,rfl⟩
 have hz5:=hd5.size;have hb5:=below_alloc w5 (.cells #[.slice aa an ac,.slice ba bn bc] 29);have hcs:fs≠cb:=by omega
 have HN6:Hid (NearP (fun b=>w4.heap.size≤b∧b<w5.heap.size) (w5.alloc (.cells #[.slice aa an ac,.slice ba bn bc] 29)) (.slice aa an ac) (.slice ba bn bc) d):=Lib.hid ((NearP.ofN (P:=fun b=>w4.heap.size≤b∧b<w5.heap.size) hna (fun b h1 h2=>⟨h1,h2⟩)).only (OnlyAt.ofBelow [] hb5) (fun b hb=>by simp at hb));have HQD:=Lib.hid hqb;have HD6:=Lib.hid ((HD4.out.trans hd5).below hb5);have HO6:Hid (OnlyAt [cb] W2 (w5.alloc (.cells #[.slice aa an ac,.slice ba bn bc] 29))):=Lib.hid ((HO4.out.same (hd5.2.1)).same (OnlyAt.ofBelow _ hb5));have HX6:=Lib.hid ((HX1.out.only hd5.2.1 (fun b hb hm=>by have:=HX1.out.lo b hb;simp at hm;omega)).below hb5)
 have HP6:Hid (Q6 rs rq fs w5.heap.size (w5.alloc (.cells #[.slice aa an ac,.slice ba bn bc] 29)) (.slice none 0 0) (.slice none 0 0) (.slice none 0 0) (.slice xa sn xc) (.slice aa an ac) (.slice ba bn bc)):=by
  have c1:rs∉[cb]:=by simp;omega
  have c2:rq∉[cb]:=by simp;omega
  have ho:=HO6.out
  exact Lib.hid ⟨ho.cell c1 K1.out.1,ho.cell c2 K2.out.1,ho.cell c2 K2.out.2.1,cellk hb5 (hd5.cell hcs ks),newBox w5 #[.slice aa an ac,.slice ba bn bc] _ 0 _ rfl,newBox w5 #[.slice aa an ac,.slice ba bn bc] _ 1 _ rfl,
   ho.frozen (by omega) c1 K1.out.2,ho.frozen (by omega) c2 K2.out.2.2.1,ho.frozen (by omega) c2 K2.out.2.2.2,frok hb5 (hd5.cell hcs ks) (hd5.frozen hcs (by omega) kf),newFrzN w5 _ _ 0,newFrzN w5 _ _ 1⟩
 have hz6:(w5.alloc (.cells #[.slice aa an ac,.slice ba bn bc] 29)).heap.size=w5.heap.size+1:=by simp
 have ksb:=HP6.out.s0;clear hoh hab hna hqb hda1 hd5 hb5 ks kf ht0 ht1 hcs;go_wp2_with fail
 obtain⟨fq,hfq⟩:∃x,x=w5.heap.size:=⟨_,rfl⟩
 rw[←hfq] at HP6 HN6 ⊢;have l6:w4.heap.size≤fq:=by omega
 generalize (w5.alloc (.cells #[.slice aa an ac,.slice ba bn bc] 29))=w6 at *;have l7:fq<w6.heap.size:=by omega
 clear hfq hz6 hz5 ksb;have hdif:Dif6 rs rq fs fq:=⟨by omega,by omega,by omega,by omega,by omega,by omega⟩;refine (hdb.out w6 W2.heap.size _ s HD6.out.st HX6.out (by omega) HSB.out.schemaB).mono ?_;rintro e w7 ⟨v,l,rfl,hL,hl8,hl3,hd7⟩
 obtain⟨va,vn,vc,rfl⟩:∃a n c,v=.slice a n c:=by
  obtain⟨a,n,c,e,_⟩:=hL.rd;exact⟨a,n,c,e⟩
 have HP7:=Lib.hid (HP6.out.only hd7.2.1 (fun b hb=>by simp at hb;omega));have HN7:=Lib.hid (HN6.out.only hd7.2.1 (fun b hb hm=>by simp at hb;have:=hm.1;omega));have HX7:=Lib.hid (HX6.out.only hd7.2.1 (fun b hb hm=>by have:=HX6.out.lo b hb;simp at hm;omega));have HD7:=Lib.hid (HD6.out.trans hd7);have HF7:=Lib.hid hL;have HG7:=Lib.hid hl8;have HH7:=Lib.hid hl3;clear hL hl3 hd7;go_wp2_with fail
 refine (hbl.out 14 _ HD7.out.st (by omega) (by omega)).mono ?_;rintro e w8 ⟨x,hx0,hx1,rfl,hcur,hg⟩;have ko:=grownBy_only hg;have HPz:=Lib.hid (HP7.out.only ko (fun b hb=>by simp at hb;omega));have HN8:=Lib.hid (HN7.out.only ko (fun b hb hm=>by simp at hb;have:=hm.1;omega));have HXz:=Lib.hid (HX7.out.only ko (fun b hb hm=>by have:=HX7.out.lo b hb;simp at hm;omega));have HFz:=Lib.hid (HF7.out.only (Nat.le_refl _) ko (fun b hb=>by simp at hb;omega));have HDz:=Lib.hid (HD7.out.draw hcur hg);have hw8:=ko.size;have hq8:=World.block_lt_of_cell? _ _ HPz.out.q0;have HBz:Hid (QBd 3 4 d):=⟨by have:=HQD.out.1;omega,by have:=HQD.out.2.1;omega,HQD.out.2.2⟩;have HLz:Hid (s.length≤5):=by have:=HSB.out.2.1;exact Lib.hid (by omega)
 have HGz:Hid (l.length≤9):=by have:=HG7.out;exact Lib.hid (by omega)
 have HHz:Hid (∀x∈l,x.2.length≤4):=fun x hx=>by have:=HH7.out x hx;omega
 have HQz:Hid (NearP (fun b=>w4.heap.size≤b∧b≠fq) w8 (.slice aa an ac) (.slice ba bn bc) d):=Lib.hid (HN8.out.mono (fun b hb=>⟨hb.1,by have:=hb.2;omega⟩))
 have HVB:Hid (∀b∈blk (.slice va vn vc),w6.heap.size≤b):=Lib.hid (fun b hb=>by
  obtain⟨W,bss,hW,ho⟩:=HF7.out;have:=(ho.blk_lo b hb).1;omega)
 have HAB:Hid (∀b∈blk (.slice aa an ac),w4.heap.size≤b∧b<fq):=Lib.hid (fun b hb=>by obtain⟨_,_,_,hP⟩:=HN8.out.builtH;exact hP b hb);clear hcur hg ko HP7 HN7 HX7 HD7 HF7 HP6 HN6 HX6 HD6 HO6 HO4 HD4 HX1 HD2 K1 K2;have hcase:x=0∨x=1∨x=2∨2<x:=by omega
 rcases hcase with rfl|rfl|rfl|hx3
 ·have HLH:Hid (d.1.length=an):=HQz.out.lenH;have hln:an≤2:=by have:=HLH.out;have:=HQD.out.1;omega
  have g5:=HPz.out.q0;go_wp2_with fail
  go_region_law (first
   |(refine step_app1D (by rfl) (.tmp 21) (.tmp 24) 24 (by rfl) 3 (.int .i64 0) 1 8 Tryz.underlying24 info_intD (by decide) (by decide) (by rfl) (.slice aa an ac) an (d.1.map (Value.int .i64)) (by rfl) (BuiltC.grow HBT.out ((Below.refl _ _).alloc (Nat.le_refl _) _)) w9.heap.size [.int .i64 y] (by rfl) (by simp[Value.oneCell']) (by rfl) (heap_alloc_new w9 _) (by omega) ?_;intro g' cap' w10 hown' ko hbl;have hal:=below_alloc w9 (.cells #[.int .i64 y] 3);have hzz:=hal.size;have HQ8:Hid (NearP (fun b=>w4.heap.size≤b∧b≠fq) w10 (.slice (some ⟨g',0,none⟩) (an+1) cap') (.slice ba bn bc) (d.1++[y],d.2)):=Lib.hid (NearP.appH HQ7.out hal ko (by have h9:=hown';rw[←HLH.out] at h9;exact⟨_,HWh.out,h9⟩) HLH.out ⟨hy0,hy1⟩ hbl (fun b hb=>⟨by omega,by omega⟩));have hPv:=HAB.out;have HP8b:=Lib.hid ((HP7.out.below hal).only ko (fun b hb=>by have:=hPv b hb;omega));have HX8b:=Lib.hid ((HX7.out.below hal).only ko (fun b hb hm=>by have:=HXB.out b hb;have:=hPv b hm;omega));have HF8b:=Lib.hid ((HF7.out.below hal).only (Nat.le_refl _) ko (fun b hb=>by have:=hPv b hb;omega));have HD8b:=Lib.hid ((HD7.out.below hal).only ko (fun b hb=>by have:=hPv b hb;omega));have z1:=HP8b.out.q0;have z2:=HP8b.out.qf0;have hz8:=ko.size;clear hown' ko hbl hPv)
   |(go_simp;go_at_call 103;refine (h2a.out _ (HDz.out.below ((Below.refl _ _).drew)).st).mono ?_;rintro e2 w9 ⟨y,hy0,hy1,rfl,hcur,hg⟩;have HD7:=Lib.hid ((HDz.out.below ((Below.refl _ _).drew)).draw hcur hg);have ko7:OnlyAt [cb] w8 w9:=(OnlyAt.ofBelow [cb] ((Below.refl w8.heap.size w8).drew)).same (grownBy_only hg);have HP7:=Lib.hid (HPz.out.only ko7 (fun b hb=>by simp at hb;omega));have HQ7:=Lib.hid (HQz.out.only ko7 (fun b hb hm=>by simp at hb;have:=hm.1;omega));have HX7:=Lib.hid (HXz.out.only ko7 (fun b hb hm=>by have:=(HXz.out.lo b hb).1;simp at hm;omega));have HF7:=Lib.hid (HFz.out.only (Nat.le_refl _) ko7 (fun b hb=>by simp at hb;omega));obtain⟨Wh,hWh,hbt,_⟩:=HQ7.out.builtH;rw[HLH.out] at hbt;have HBT:=Lib.hid hbt;have HWh:=Lib.hid hWh;have qb:=HP7.out.q0;have qc:=cellk ((Below.refl w9.heap.size w9).alloc (Nat.le_refl _) (.cells #[.int .i64 y] 3)) qb;have hz7c:=ko7.size;clear hcur hg hbt ko7 hWh))
  all_goals (go_wp2_with fail)
  all_goals
   have HPz2:=Lib.hid (HP8b.out.setH hdif (.slice (some ⟨g',0,none⟩) (an+1) cap'));have kst:=OnlyAt.setCell w10 fq 0 (.slice (some ⟨g',0,none⟩) (an+1) cap');have HQz2:=Lib.hid (HQ8.out.only kst (fun b hb hm=>by simp at hb;exact hm.2 hb));have HXz2:=Lib.hid (HX8b.out.only kst (fun b hb hm=>by have:=HXB.out b hb;simp at hm;omega));have HFz2:=Lib.hid (HF8b.out.only (Nat.le_refl _) kst (fun b hb=>by simp at hb;omega));have HDz2:=Lib.hid (HD8b.out.only kst (fun b hb=>by simp at hb;omega));have hzst:=kst.size;generalize w10.setCell ⟨fq,0,none⟩ (.slice (some ⟨g',0,none⟩) (an+1) cap')=w11 at *;clear z1 z2 kst HPz HQz HXz HFz HDz HP8b HX8b HD8b HF8b HQ8 g5 HBz;have HPz:=HPz2;have HQz:=HQz2;have HXz:=HXz2;have HFz:=HFz2;have HDz:=HDz2;clear HPz2 HQz2 HXz2 HFz2 HDz2;have HBz:Hid (QBd 3 4 (d.1++[y],d.2)):=⟨by have:=HQD.out.1;simp;omega,by have:=HQD.out.2.1;show d.2.length≤4;omega,HQD.out.2.2⟩
   have HEND:Hid (∀wE,OnlyAt [rs,rq] w11.drew wE→DrewD w S len cb (.returned (.tuple #[.agg #[.slice xa sn xc],.agg #[.slice (some ⟨g',0,none⟩) (an+1) cap',.slice ba bn bc],.slice va vn vc])) wE):=Lib.hid (fun wE hk0=>by
    have hk:OnlyAt [rs,rq] w11 wE:=(OnlyAt.ofBelow [rs,rq] ((Below.refl w11.heap.size w11).drew)).same hk0;have hlo:∀b∈[rs,rq],b<W2.heap.size:=fun b hb=>by simp at hb;omega
    have hwz:=HDz.out.size;have hwq:=World.block_lt_of_cell? _ _ HPz.out.q0;exact⟨_,s,_,_,(d.1++[y],d.2),_,l,rfl,(HXz.out.only hk (fun b hb hm=>by have:=(HXz.out.lo b hb).1;have:=hlo b hm;omega)).mono (by omega),HLz.out,(HQz.out.only hk (fun b hb hm=>by have:=hlo b hb;have:=hm.1;omega)).toN (fun b hb=>by have:=hb.1;omega) (by have:=hk.size;omega),HBz.out,HFz.out.only (by omega) hk (fun b hb=>by have:=hlo b hb;omega),HGz.out,HHz.out,HDz.out.only hk (fun b hm=>by simp at hm;omega)⟩)
   obtain⟨wd,hwd⟩:∃x,x=w11.drew:=⟨_,rfl⟩
   have hz:=HPz.out.below (Below.refl w11.heap.size w11).drew;have hko:OnlyAt [rs,rq] w11.drew w11.drew:=OnlyAt.refl _ _;rw[←hwd] at hz hko HEND;go_wp2_with fail
   clear HPz HQz HXz HDz HFz HLz HBz HGz HHz hbl hsc hqu hdb haf h2a hsa HS HBW;refine wp_region_noPanic ?_;refine wp_region_held_drew (S:=(fun w'=>w'.cell? ⟨fs,0,none⟩=some (.slice xa sn xc)∧w'.cell? ⟨fq,0,none⟩=some (.slice (some ⟨g',0,none⟩) (an+1) cap')∧w'.cell? ⟨fq,1,none⟩=some (.slice ba bn bc))) (by kernel_rfl) ?_ (fun hHeld=>?_)
   ·(try dsimp only)
    rw[←hwd];exact⟨hz.s0,hz.q0,hz.q1⟩
   refine wpAnyH_take (i:=0) (oi:=_) (v:=?_) rfl (by kernel_rfl) (by kernel_rfl) (by kernel_rfl) (fun _ _ _ h=>h) (Or.inl ⟨by rfl,?_⟩) (by assumption) ?_;rotate_left
   ·(intro w hSw;(try dsimp only at hSw);go_simp<;>with_reducible rfl)
   (try simp only[Act.put,List.setIfInBounds_toArray,List.set_cons_zero,List.set_cons_succ])
   refine wpAnyH_take (i:=1) (oi:=_) (v:=?_) rfl (by kernel_rfl) (by kernel_rfl) (by kernel_rfl) (fun _ _ _ h=>h) (Or.inl ⟨by rfl,?_⟩) (by assumption) ?_;rotate_left
   ·(intro w hSw;(try dsimp only at hSw);go_simp<;>with_reducible rfl)
   (try simp only[Act.put,List.setIfInBounds_toArray,List.set_cons_zero,List.set_cons_succ])
   refine wpAnyH_take (i:=2) (oi:=_) (v:=?_) rfl (by kernel_rfl) (by kernel_rfl) (by kernel_rfl) (fun _ _ _ h=>h) (Or.inl ⟨by rfl,?_⟩) (by assumption) ?_;rotate_left
   ·(intro w hSw;(try dsimp only at hSw);go_simp<;>with_reducible rfl)
   (try simp only[Act.put,List.setIfInBounds_toArray,List.set_cons_zero,List.set_cons_succ])
   clear hHeld;rw[←hwd];clear hwd;refine wpAnyH_ready (rs:=[3]) (by kernel_rfl) (by simp) ?_;refine AllReadyH.cons (o:=_) rfl (fun K hK=>?_) ?_
   ·obtain⟨e0,e1,e2,_,_,_,f0,f1,f2,_,_,_⟩:=id hz
    go_simp
    obtain⟨ws1,hw⟩:∃x,x=(wd.setCell ⟨rs,0,none⟩ (.slice xa sn xc)):=⟨_,rfl⟩
    have hz1:=hz.setRs hdif (.slice xa sn xc);have hko1:OnlyAt [rs,rq] wd (wd.setCell ⟨rs,0,none⟩ (.slice xa sn xc)):=hko.same ((OnlyAt.setCell _ _ _ _).wider (by simp));rw[←hw] at hz1 hko1 ⊢;clear hw e0 e1 e2 f0 f1 f2;refine hK.out _ _ ?_ (fun hHeld=>?_)
    ·(try dsimp only)
     exact⟨hz1.s0,hz1.q0,hz1.q1⟩
    clear hK K hHeld
    (try simp only[Act.put,List.setIfInBounds_toArray,List.set_cons_zero,List.set_cons_succ])
    refine wpAnyH_ready (rs:=[4]) (by kernel_rfl) (by simp) ?_;refine AllReadyH.cons (o:=_) rfl (fun K hK=>?_) ?_
    ·obtain⟨e0,e1,e2,_,_,_,f0,f1,f2,_,_,_⟩:=id hz1
     go_simp
     obtain⟨ws2,hw⟩:∃x,x=((ws1.setCell ⟨rq,0,none⟩ (.slice (some ⟨g',0,none⟩) (an+1) cap')).setCell ⟨rq,1,none⟩ (.slice ba bn bc)):=⟨_,rfl⟩
     have hz2:=hz1.setRq hdif (.slice (some ⟨g',0,none⟩) (an+1) cap') (.slice ba bn bc);have hko2:OnlyAt [rs,rq] wd ((ws1.setCell ⟨rq,0,none⟩ (.slice (some ⟨g',0,none⟩) (an+1) cap')).setCell ⟨rq,1,none⟩ (.slice ba bn bc)):=hko1.same (((OnlyAt.setCell _ _ _ _).same (OnlyAt.setCell _ _ _ _)).wider (by simp));rw[←hw] at hz2 hko2 ⊢;clear hw e0 e1 e2 f0 f1 f2;refine hK.out _ _ ?_ (fun hHeld=>?_)
     ·(try dsimp only)
      exact⟨hz2.s0,hz2.q0,hz2.q1⟩
     clear hK K hHeld
     (try simp only[Act.put,List.setIfInBounds_toArray,List.set_cons_zero,List.set_cons_succ])
     refine wpAnyH_ready (rs:=[5]) (by kernel_rfl) (by simp) ?_;refine AllReadyH.cons (o:=_) rfl (fun K hK=>?_) ?_
     ·go_simp
      refine hK.out _ _ ?_ (fun hHeld=>?_)
      ·(try dsimp only)
       exact⟨hz2.s0,hz2.q0,hz2.q1⟩
      clear hK K hHeld
      (try simp only[Act.put,List.setIfInBounds_toArray,List.set_cons_zero,List.set_cons_succ])
      refine wpAnyH_done (by kernel_rfl) ?_ _;refine NoPanic.normal ?_;go_wp2_with fail
      exact bodyPost_ret (v:=.tuple #[.agg #[.slice xa sn xc],.agg #[.slice (some ⟨g',0,none⟩) (an+1) cap',.slice ba bn bc],.slice va vn vc]) (by simp[results,Tryz.results46,go_sem,hz2.rs0,hz2.rq0,hz2.rq1]) rfl (HEND.out _ hko2)
     exact AllReadyH.nil
    exact AllReadyH.nil
   exact AllReadyH.nil
 ·have ksb:=HPz.out.s0;go_wp2_with fail
  refine (haf.out w8 W2.heap.size _ s HDz.out.st HXz.out (by omega)).mono ?_;rintro e w9 ⟨r,yv,fl,rfl,hri,hoy,hf1,hf4,hd9⟩;obtain⟨W,bss,cs,hW,ho,hc1,hc2,hb1,hb2,hb3⟩:=HFz.out.ready (by omega) hd9;have hvn:∀b∈blk (.slice va vn vc),w6.heap.size≤b:=HVB.out;have HP9:=Lib.hid (HPz.out.only hd9.2.1 (fun b hb=>by simp at hb;omega));have HQ9:=Lib.hid (HN8.out.only hd9.2.1 (fun b hb hm=>by simp at hb;have:=hm.1;omega));have HX9:=Lib.hid (HXz.out.only hd9.2.1 (fun b hb hm=>by have:=(HXz.out.lo b hb).1;simp at hm;omega));have HD9:=Lib.hid (HDz.out.trans hd9);have HO:=Lib.hid ho;have HC1:=Lib.hid hc1;have HC2:=Lib.hid hc2;have HOY:=Lib.hid hoy;have HG1:=HG7.out;obtain⟨ya,yc,rfl⟩:=hoy.shape;clear hoy hd9 ho hc1 hc2 ksb;go_wp2_with (at_builtin;refine wpList_app1D rfl (.tmp 29) (.tmp 33) 36 rfl 127 (.agg #[.int .i64 0,.slice none 0 0]) 2 32 Tryz.underlying36 info_Fact (by decide) (by decide) (by rfl) (.slice va vn vc) l.length cs rfl HC1.out [.int .i64 r,.slice ya fl.length yc] rfl (by simp[Value.oneCell']) (by first|rfl|(simp;rfl)) (by omega) ?_)
  intro v' w11 hown' ko hbl7;have HL7:=Lib.hid (DFs.app (base:=w8.heap.size) HO.out HC1.out HC2.out HOY.out (fun b hb=>(hb1 b hb).2) hb2 hri hown' ko (fun b hb=>(hbl7 b hb).imp id (fun h=>by simpa using h)) (by omega));rw[hW] at HL7;have HPz2:=Lib.hid (HP9.out.only ko (fun b hb=>by have:=hvn b hb;omega));have HQz2:Hid (NearP (fun b=>w4.heap.size≤b∧b≠fq) w11 (.slice aa an ac) (.slice ba bn bc) d):=Lib.hid ((HQ9.out.only ko (fun b hb hm=>by have:=hvn b hb;have:=hm.2;omega)).mono (fun b hb=>⟨hb.1,by have:=hb.2;omega⟩));have HXz2:=Lib.hid (HX9.out.only ko (fun b hb hm=>by have:=HXB.out b hb;have:=hvn b hm;omega));have HFz2:=HL7;have HDz2:=Lib.hid (HD9.out.only ko (fun b hb=>by have:=hvn b hb;omega));have hzst:=ko.size;clear hown' ko hbl7 hb1 hb2 hb3 HPz HQz HXz HFz HDz HL7 HP9 HQ9 HX9 HD9 hvn HO HC1 HC2 HOY HG1;have HPz:=HPz2;have HQz:=HQz2;have HXz:=HXz2;have HFz:=HFz2;have HDz:=HDz2;clear HPz2 HQz2 HXz2 HFz2 HDz2;have HGz9:Hid ((l++[(r,fl)]).length≤9):=by have:=HG7.out;exact Lib.hid (by simp;omega)
  have HHz9:Hid (∀x∈l++[(r,fl)],x.2.length≤4):=fun x hx=>(List.mem_append.1 hx).elim (HHz.out x) (fun hx=>by simp at hx;rw[hx];exact hf4)
  clear HGz HHz;have HGz:=HGz9;have HHz:=HHz9;clear HGz9 HHz9
  have HEND:Hid (∀wE,OnlyAt [rs,rq] w11.drew wE→DrewD w S len cb (.returned (.tuple #[.agg #[.slice xa sn xc],.agg #[.slice aa an ac,.slice ba bn bc],v'])) wE):=Lib.hid (fun wE hk0=>by
   have hk:OnlyAt [rs,rq] w11 wE:=(OnlyAt.ofBelow [rs,rq] ((Below.refl w11.heap.size w11).drew)).same hk0;have hlo:∀b∈[rs,rq],b<W2.heap.size:=fun b hb=>by simp at hb;omega
   have hwz:=HDz.out.size;have hwq:=World.block_lt_of_cell? _ _ HPz.out.q0;exact⟨_,s,_,_,d,_,(l++[(r,fl)]),rfl,(HXz.out.only hk (fun b hb hm=>by have:=(HXz.out.lo b hb).1;have:=hlo b hm;omega)).mono (by omega),HLz.out,(HQz.out.only hk (fun b hb hm=>by have:=hlo b hb;have:=hm.1;omega)).toN (fun b hb=>by have:=hb.1;omega) (by have:=hk.size;omega),HBz.out,HFz.out.only (by omega) hk (fun b hb=>by have:=hlo b hb;omega),HGz.out,HHz.out,HDz.out.only hk (fun b hm=>by simp at hm;omega)⟩)
  obtain⟨wd,hwd⟩:∃x,x=w11.drew:=⟨_,rfl⟩
  have hz:=HPz.out.below (Below.refl w11.heap.size w11).drew;have hko:OnlyAt [rs,rq] w11.drew w11.drew:=OnlyAt.refl _ _;rw[←hwd] at hz hko HEND;go_wp2_with fail
  clear HPz HQz HXz HDz HFz HLz HBz HGz HHz hbl hsc hqu hdb haf h2a hsa HS HBW;refine wp_region_noPanic ?_;refine wp_region_held_drew (S:=(fun w'=>w'.cell? ⟨fs,0,none⟩=some (.slice xa sn xc)∧w'.cell? ⟨fq,0,none⟩=some (.slice aa an ac)∧w'.cell? ⟨fq,1,none⟩=some (.slice ba bn bc))) (by kernel_rfl) ?_ (fun hHeld=>?_)
  ·(try dsimp only)
   rw[←hwd];exact⟨hz.s0,hz.q0,hz.q1⟩
  refine wpAnyH_take (i:=0) (oi:=_) (v:=?_) rfl (by kernel_rfl) (by kernel_rfl) (by kernel_rfl) (fun _ _ _ h=>h) (Or.inl ⟨by rfl,?_⟩) (by assumption) ?_;rotate_left
  ·(intro w hSw;(try dsimp only at hSw);go_simp<;>with_reducible rfl)
  (try simp only[Act.put,List.setIfInBounds_toArray,List.set_cons_zero,List.set_cons_succ])
  refine wpAnyH_take (i:=1) (oi:=_) (v:=?_) rfl (by kernel_rfl) (by kernel_rfl) (by kernel_rfl) (fun _ _ _ h=>h) (Or.inl ⟨by rfl,?_⟩) (by assumption) ?_;rotate_left
  ·(intro w hSw;(try dsimp only at hSw);go_simp<;>with_reducible rfl)
  (try simp only[Act.put,List.setIfInBounds_toArray,List.set_cons_zero,List.set_cons_succ])
  refine wpAnyH_take (i:=2) (oi:=_) (v:=?_) rfl (by kernel_rfl) (by kernel_rfl) (by kernel_rfl) (fun _ _ _ h=>h) (Or.inl ⟨by rfl,?_⟩) (by assumption) ?_;rotate_left
  ·(intro w hSw;(try dsimp only at hSw);go_simp<;>with_reducible rfl)
  (try simp only[Act.put,List.setIfInBounds_toArray,List.set_cons_zero,List.set_cons_succ])
  clear hHeld;rw[←hwd];clear hwd;refine wpAnyH_ready (rs:=[3]) (by kernel_rfl) (by simp) ?_;refine AllReadyH.cons (o:=_) rfl (fun K hK=>?_) ?_
  ·obtain⟨e0,e1,e2,_,_,_,f0,f1,f2,_,_,_⟩:=id hz
   go_simp
   obtain⟨ws1,hw⟩:∃x,x=(wd.setCell ⟨rs,0,none⟩ (.slice xa sn xc)):=⟨_,rfl⟩
   have hz1:=hz.setRs hdif (.slice xa sn xc);have hko1:OnlyAt [rs,rq] wd (wd.setCell ⟨rs,0,none⟩ (.slice xa sn xc)):=hko.same ((OnlyAt.setCell _ _ _ _).wider (by simp));rw[←hw] at hz1 hko1 ⊢;clear hw e0 e1 e2 f0 f1 f2;refine hK.out _ _ ?_ (fun hHeld=>?_)
   ·(try dsimp only)
    exact⟨hz1.s0,hz1.q0,hz1.q1⟩
   clear hK K hHeld
   (try simp only[Act.put,List.setIfInBounds_toArray,List.set_cons_zero,List.set_cons_succ])
   refine wpAnyH_ready (rs:=[4]) (by kernel_rfl) (by simp) ?_;refine AllReadyH.cons (o:=_) rfl (fun K hK=>?_) ?_
   ·obtain⟨e0,e1,e2,_,_,_,f0,f1,f2,_,_,_⟩:=id hz1
    go_simp
    obtain⟨ws2,hw⟩:∃x,x=((ws1.setCell ⟨rq,0,none⟩ (.slice aa an ac)).setCell ⟨rq,1,none⟩ (.slice ba bn bc)):=⟨_,rfl⟩
    have hz2:=hz1.setRq hdif (.slice aa an ac) (.slice ba bn bc);have hko2:OnlyAt [rs,rq] wd ((ws1.setCell ⟨rq,0,none⟩ (.slice aa an ac)).setCell ⟨rq,1,none⟩ (.slice ba bn bc)):=hko1.same (((OnlyAt.setCell _ _ _ _).same (OnlyAt.setCell _ _ _ _)).wider (by simp));rw[←hw] at hz2 hko2 ⊢;clear hw e0 e1 e2 f0 f1 f2;refine hK.out _ _ ?_ (fun hHeld=>?_)
    ·(try dsimp only)
     exact⟨hz2.s0,hz2.q0,hz2.q1⟩
    clear hK K hHeld
    (try simp only[Act.put,List.setIfInBounds_toArray,List.set_cons_zero,List.set_cons_succ])
    refine wpAnyH_ready (rs:=[5]) (by kernel_rfl) (by simp) ?_;refine AllReadyH.cons (o:=_) rfl (fun K hK=>?_) ?_
    ·go_simp
     refine hK.out _ _ ?_ (fun hHeld=>?_)
     ·(try dsimp only)
      exact⟨hz2.s0,hz2.q0,hz2.q1⟩
     clear hK K hHeld
     (try simp only[Act.put,List.setIfInBounds_toArray,List.set_cons_zero,List.set_cons_succ])
     refine wpAnyH_done (by kernel_rfl) ?_ _;refine NoPanic.normal ?_;go_wp2_with fail
     exact bodyPost_ret (v:=.tuple #[.agg #[.slice xa sn xc],.agg #[.slice aa an ac,.slice ba bn bc],v']) (by simp[results,Tryz.results46,go_sem,hz2.rs0,hz2.rq0,hz2.rq1]) rfl (HEND.out _ hko2)
    exact AllReadyH.nil
   exact AllReadyH.nil
  exact AllReadyH.nil
 ·have g1:=HPz.out.s0;have g2:=HPz.out.sf;go_wp2_with fail
  refine (hsa.out _ HDz.out.st).mono ?_;rintro e w9 ⟨zv,vl,rfl,hoz,_,hz5,hd7⟩;obtain⟨za,zc,rfl⟩:=hoz.shape;have hzz:=hd7.size;clear g1 g2;have HP7:=Lib.hid (HPz.out.only hd7.2.1 (fun b hb=>by simp at hb;omega));have kst:=OnlyAt.setCell w9 fs 0 (.slice za vl.length zc);have HPz2:=Lib.hid (HP7.out.setS hdif (.slice za vl.length zc));have HQz2:=Lib.hid ((HQz.out.only hd7.2.1 (fun b hb hm=>by simp at hb;have:=hm.1;omega)).only kst (fun b hb hm=>by simp at hb;have:=hm.1;omega));have HXz2:Hid (OwI W2.heap.size (w9.setCell ⟨fs,0,none⟩ (.slice za vl.length zc)) (.slice za vl.length zc) vl):=Lib.hid ((hoz.only kst (fun b hb hm=>by have:=hoz.lo b hb;simp at hm;omega)).mono (by omega));have HFz2:=Lib.hid ((HFz.out.only (Nat.le_refl _) hd7.2.1 (fun b hb=>by simp at hb;omega)).only (Nat.le_refl _) kst (fun b hb=>by simp at hb;omega));have HDz2:=Lib.hid ((HDz.out.trans hd7).only kst (fun b hb=>by simp at hb;omega));have hzst:=kst.size;have k3:=HP7.out.s0;have k4:=HP7.out.sf;clear hoz hd7 kst HLz;go_wp2_with fail
  clear k3 k4;generalize w9.setCell ⟨fs,0,none⟩ (.slice za vl.length zc)=w11 at *;clear HPz HQz HXz HFz HDz HP7;have HPz:=HPz2;have HQz:=HQz2;have HXz:=HXz2;have HFz:=HFz2;have HDz:=HDz2;clear HPz2 HQz2 HXz2 HFz2 HDz2;have HLz:=Lib.hid hz5
  have HEND:Hid (∀wE,OnlyAt [rs,rq] w11.drew wE→DrewD w S len cb (.returned (.tuple #[.agg #[.slice za vl.length zc],.agg #[.slice aa an ac,.slice ba bn bc],.slice va vn vc])) wE):=Lib.hid (fun wE hk0=>by
   have hk:OnlyAt [rs,rq] w11 wE:=(OnlyAt.ofBelow [rs,rq] ((Below.refl w11.heap.size w11).drew)).same hk0;have hlo:∀b∈[rs,rq],b<W2.heap.size:=fun b hb=>by simp at hb;omega
   have hwz:=HDz.out.size;have hwq:=World.block_lt_of_cell? _ _ HPz.out.q0;exact⟨_,vl,_,_,d,_,l,rfl,(HXz.out.only hk (fun b hb hm=>by have:=(HXz.out.lo b hb).1;have:=hlo b hm;omega)).mono (by omega),HLz.out,(HQz.out.only hk (fun b hb hm=>by have:=hlo b hb;have:=hm.1;omega)).toN (fun b hb=>by have:=hb.1;omega) (by have:=hk.size;omega),HBz.out,HFz.out.only (by omega) hk (fun b hb=>by have:=hlo b hb;omega),HGz.out,HHz.out,HDz.out.only hk (fun b hm=>by simp at hm;omega)⟩)
  obtain⟨wd,hwd⟩:∃x,x=w11.drew:=⟨_,rfl⟩
  have hz:=HPz.out.below (Below.refl w11.heap.size w11).drew;have hko:OnlyAt [rs,rq] w11.drew w11.drew:=OnlyAt.refl _ _;rw[←hwd] at hz hko HEND;go_wp2_with fail
  clear HPz HQz HXz HDz HFz HLz HBz HGz HHz hbl hsc hqu hdb haf h2a hsa HS HBW;refine wp_region_noPanic ?_;refine wp_region_held_drew (S:=(fun w'=>w'.cell? ⟨fs,0,none⟩=some (.slice za vl.length zc)∧w'.cell? ⟨fq,0,none⟩=some (.slice aa an ac)∧w'.cell? ⟨fq,1,none⟩=some (.slice ba bn bc))) (by kernel_rfl) ?_ (fun hHeld=>?_)
  ·(try dsimp only)
   rw[←hwd];exact⟨hz.s0,hz.q0,hz.q1⟩
  refine wpAnyH_take (i:=0) (oi:=_) (v:=?_) rfl (by kernel_rfl) (by kernel_rfl) (by kernel_rfl) (fun _ _ _ h=>h) (Or.inl ⟨by rfl,?_⟩) (by assumption) ?_;rotate_left
  ·(intro w hSw;(try dsimp only at hSw);go_simp<;>with_reducible rfl)
  (try simp only[Act.put,List.setIfInBounds_toArray,List.set_cons_zero,List.set_cons_succ])
  refine wpAnyH_take (i:=1) (oi:=_) (v:=?_) rfl (by kernel_rfl) (by kernel_rfl) (by kernel_rfl) (fun _ _ _ h=>h) (Or.inl ⟨by rfl,?_⟩) (by assumption) ?_;rotate_left
  ·(intro w hSw;(try dsimp only at hSw);go_simp<;>with_reducible rfl)
  (try simp only[Act.put,List.setIfInBounds_toArray,List.set_cons_zero,List.set_cons_succ])
  refine wpAnyH_take (i:=2) (oi:=_) (v:=?_) rfl (by kernel_rfl) (by kernel_rfl) (by kernel_rfl) (fun _ _ _ h=>h) (Or.inl ⟨by rfl,?_⟩) (by assumption) ?_;rotate_left
  ·(intro w hSw;(try dsimp only at hSw);go_simp<;>with_reducible rfl)
  (try simp only[Act.put,List.setIfInBounds_toArray,List.set_cons_zero,List.set_cons_succ])
  clear hHeld;rw[←hwd];clear hwd;refine wpAnyH_ready (rs:=[3]) (by kernel_rfl) (by simp) ?_;refine AllReadyH.cons (o:=_) rfl (fun K hK=>?_) ?_
  ·obtain⟨e0,e1,e2,_,_,_,f0,f1,f2,_,_,_⟩:=id hz
   go_simp
   obtain⟨ws1,hw⟩:∃x,x=(wd.setCell ⟨rs,0,none⟩ (.slice za vl.length zc)):=⟨_,rfl⟩
   have hz1:=hz.setRs hdif (.slice za vl.length zc);have hko1:OnlyAt [rs,rq] wd (wd.setCell ⟨rs,0,none⟩ (.slice za vl.length zc)):=hko.same ((OnlyAt.setCell _ _ _ _).wider (by simp));rw[←hw] at hz1 hko1 ⊢;clear hw e0 e1 e2 f0 f1 f2;refine hK.out _ _ ?_ (fun hHeld=>?_)
   ·(try dsimp only)
    exact⟨hz1.s0,hz1.q0,hz1.q1⟩
   clear hK K hHeld
   (try simp only[Act.put,List.setIfInBounds_toArray,List.set_cons_zero,List.set_cons_succ])
   refine wpAnyH_ready (rs:=[4]) (by kernel_rfl) (by simp) ?_;refine AllReadyH.cons (o:=_) rfl (fun K hK=>?_) ?_
   ·obtain⟨e0,e1,e2,_,_,_,f0,f1,f2,_,_,_⟩:=id hz1
    go_simp
    obtain⟨ws2,hw⟩:∃x,x=((ws1.setCell ⟨rq,0,none⟩ (.slice aa an ac)).setCell ⟨rq,1,none⟩ (.slice ba bn bc)):=⟨_,rfl⟩
    have hz2:=hz1.setRq hdif (.slice aa an ac) (.slice ba bn bc);have hko2:OnlyAt [rs,rq] wd ((ws1.setCell ⟨rq,0,none⟩ (.slice aa an ac)).setCell ⟨rq,1,none⟩ (.slice ba bn bc)):=hko1.same (((OnlyAt.setCell _ _ _ _).same (OnlyAt.setCell _ _ _ _)).wider (by simp));rw[←hw] at hz2 hko2 ⊢;clear hw e0 e1 e2 f0 f1 f2;refine hK.out _ _ ?_ (fun hHeld=>?_)
    ·(try dsimp only)
     exact⟨hz2.s0,hz2.q0,hz2.q1⟩
    clear hK K hHeld
    (try simp only[Act.put,List.setIfInBounds_toArray,List.set_cons_zero,List.set_cons_succ])
    refine wpAnyH_ready (rs:=[5]) (by kernel_rfl) (by simp) ?_;refine AllReadyH.cons (o:=_) rfl (fun K hK=>?_) ?_
    ·go_simp
     refine hK.out _ _ ?_ (fun hHeld=>?_)
     ·(try dsimp only)
      exact⟨hz2.s0,hz2.q0,hz2.q1⟩
     clear hK K hHeld
     (try simp only[Act.put,List.setIfInBounds_toArray,List.set_cons_zero,List.set_cons_succ])
     refine wpAnyH_done (by kernel_rfl) ?_ _;refine NoPanic.normal ?_;go_wp2_with fail
     exact bodyPost_ret (v:=.tuple #[.agg #[.slice za vl.length zc],.agg #[.slice aa an ac,.slice ba bn bc],.slice va vn vc]) (by simp[results,Tryz.results46,go_sem,hz2.rs0,hz2.rq0,hz2.rq1]) rfl (HEND.out _ hko2)
    exact AllReadyH.nil
   exact AllReadyH.nil
  exact AllReadyH.nil
 ·have p0:decide (x=0)=false:=decide_eq_false (by omega);have p1:decide (x=1)=false:=decide_eq_false (by omega);have p2:decide (x=2)=false:=decide_eq_false (by omega);have p0':(x==0)=false:=by simp;omega
  have p1':(x==1)=false:=by simp;omega
  have p2':(x==2)=false:=by simp;omega
  have HEND:Hid (∀wE,OnlyAt [rs,rq] w8.drew wE→DrewD w S len cb (.returned (.tuple #[.agg #[.slice xa sn xc],.agg #[.slice aa an ac,.slice ba bn bc],.slice va vn vc])) wE):=Lib.hid (fun wE hk0=>by
   have hk:OnlyAt [rs,rq] w8 wE:=(OnlyAt.ofBelow [rs,rq] ((Below.refl w8.heap.size w8).drew)).same hk0;have hlo:∀b∈[rs,rq],b<W2.heap.size:=fun b hb=>by simp at hb;omega
   have hwz:=HDz.out.size;have hwq:=World.block_lt_of_cell? _ _ HPz.out.q0;exact⟨_,s,_,_,d,_,l,rfl,(HXz.out.only hk (fun b hb hm=>by have:=(HXz.out.lo b hb).1;have:=hlo b hm;omega)).mono (by omega),HLz.out,(HQz.out.only hk (fun b hb hm=>by have:=hlo b hb;have:=hm.1;omega)).toN (fun b hb=>by have:=hb.1;omega) (by have:=hk.size;omega),HBz.out,HFz.out.only (by omega) hk (fun b hb=>by have:=hlo b hb;omega),HGz.out,HHz.out,HDz.out.only hk (fun b hm=>by simp at hm;omega)⟩)
  obtain⟨wd,hwd⟩:∃x,x=w8.drew:=⟨_,rfl⟩
  have hz:=HPz.out.below (Below.refl w8.heap.size w8).drew;have hko:OnlyAt [rs,rq] w8.drew w8.drew:=OnlyAt.refl _ _;rw[←hwd] at hz hko HEND;go_wp2_with fail
  clear HPz HQz HXz HDz HFz HLz HBz HGz HHz hbl hsc hqu hdb haf h2a hsa HS HBW;refine wp_region_noPanic ?_;refine wp_region_held_drew (S:=(fun w'=>w'.cell? ⟨fs,0,none⟩=some (.slice xa sn xc)∧w'.cell? ⟨fq,0,none⟩=some (.slice aa an ac)∧w'.cell? ⟨fq,1,none⟩=some (.slice ba bn bc))) (by kernel_rfl) ?_ (fun hHeld=>?_)
  ·(try dsimp only)
   rw[←hwd];exact⟨hz.s0,hz.q0,hz.q1⟩
  refine wpAnyH_take (i:=0) (oi:=_) (v:=?_) rfl (by kernel_rfl) (by kernel_rfl) (by kernel_rfl) (fun _ _ _ h=>h) (Or.inl ⟨by rfl,?_⟩) (by assumption) ?_;rotate_left
  ·(intro w hSw;(try dsimp only at hSw);go_simp<;>with_reducible rfl)
  (try simp only[Act.put,List.setIfInBounds_toArray,List.set_cons_zero,List.set_cons_succ])
  refine wpAnyH_take (i:=1) (oi:=_) (v:=?_) rfl (by kernel_rfl) (by kernel_rfl) (by kernel_rfl) (fun _ _ _ h=>h) (Or.inl ⟨by rfl,?_⟩) (by assumption) ?_;rotate_left
  ·(intro w hSw;(try dsimp only at hSw);go_simp<;>with_reducible rfl)
  (try simp only[Act.put,List.setIfInBounds_toArray,List.set_cons_zero,List.set_cons_succ])
  refine wpAnyH_take (i:=2) (oi:=_) (v:=?_) rfl (by kernel_rfl) (by kernel_rfl) (by kernel_rfl) (fun _ _ _ h=>h) (Or.inl ⟨by rfl,?_⟩) (by assumption) ?_;rotate_left
  ·(intro w hSw;(try dsimp only at hSw);go_simp<;>with_reducible rfl)
  (try simp only[Act.put,List.setIfInBounds_toArray,List.set_cons_zero,List.set_cons_succ])
  clear hHeld;rw[←hwd];clear hwd;refine wpAnyH_ready (rs:=[3]) (by kernel_rfl) (by simp) ?_;refine AllReadyH.cons (o:=_) rfl (fun K hK=>?_) ?_
  ·obtain⟨e0,e1,e2,_,_,_,f0,f1,f2,_,_,_⟩:=id hz
   go_simp
   obtain⟨ws1,hw⟩:∃x,x=(wd.setCell ⟨rs,0,none⟩ (.slice xa sn xc)):=⟨_,rfl⟩
   have hz1:=hz.setRs hdif (.slice xa sn xc);have hko1:OnlyAt [rs,rq] wd (wd.setCell ⟨rs,0,none⟩ (.slice xa sn xc)):=hko.same ((OnlyAt.setCell _ _ _ _).wider (by simp));rw[←hw] at hz1 hko1 ⊢;clear hw e0 e1 e2 f0 f1 f2;refine hK.out _ _ ?_ (fun hHeld=>?_)
   ·(try dsimp only)
    exact⟨hz1.s0,hz1.q0,hz1.q1⟩
   clear hK K hHeld
   (try simp only[Act.put,List.setIfInBounds_toArray,List.set_cons_zero,List.set_cons_succ])
   refine wpAnyH_ready (rs:=[4]) (by kernel_rfl) (by simp) ?_;refine AllReadyH.cons (o:=_) rfl (fun K hK=>?_) ?_
   ·obtain⟨e0,e1,e2,_,_,_,f0,f1,f2,_,_,_⟩:=id hz1
    go_simp
    obtain⟨ws2,hw⟩:∃x,x=((ws1.setCell ⟨rq,0,none⟩ (.slice aa an ac)).setCell ⟨rq,1,none⟩ (.slice ba bn bc)):=⟨_,rfl⟩
    have hz2:=hz1.setRq hdif (.slice aa an ac) (.slice ba bn bc);have hko2:OnlyAt [rs,rq] wd ((ws1.setCell ⟨rq,0,none⟩ (.slice aa an ac)).setCell ⟨rq,1,none⟩ (.slice ba bn bc)):=hko1.same (((OnlyAt.setCell _ _ _ _).same (OnlyAt.setCell _ _ _ _)).wider (by simp));rw[←hw] at hz2 hko2 ⊢;clear hw e0 e1 e2 f0 f1 f2;refine hK.out _ _ ?_ (fun hHeld=>?_)
    ·(try dsimp only)
     exact⟨hz2.s0,hz2.q0,hz2.q1⟩
    clear hK K hHeld
    (try simp only[Act.put,List.setIfInBounds_toArray,List.set_cons_zero,List.set_cons_succ])
    refine wpAnyH_ready (rs:=[5]) (by kernel_rfl) (by simp) ?_;refine AllReadyH.cons (o:=_) rfl (fun K hK=>?_) ?_
    ·go_simp
     refine hK.out _ _ ?_ (fun hHeld=>?_)
     ·(try dsimp only)
      exact⟨hz2.s0,hz2.q0,hz2.q1⟩
     clear hK K hHeld
     (try simp only[Act.put,List.setIfInBounds_toArray,List.set_cons_zero,List.set_cons_succ])
     refine wpAnyH_done (by kernel_rfl) ?_ _;refine NoPanic.normal ?_;go_wp2_with fail
     exact bodyPost_ret (v:=.tuple #[.agg #[.slice xa sn xc],.agg #[.slice aa an ac,.slice ba bn bc],.slice va vn vc]) (by simp[results,Tryz.results46,go_sem,hz2.rs0,hz2.rq0,hz2.rq1]) rfl (HEND.out _ hko2)
    exact AllReadyH.nil
   exact AllReadyH.nil
  exact AllReadyH.nil
set_option maxRecDepth 100000 in
set_option maxHeartbeats 4000000 in
theorem drawAnswers_any (w:World) (S:Value) (len:Nat) (h:Arg w S len) :
  Calls Tryz.prog 14 #[S] w (DrewDF w):=by
 have hnw:=Lib.hid (fun w h=>l1New_any w S len h);have han:=Lib.hid (fun w cb h=>l6Draw_any w S len cb h);obtain⟨wA,hwA⟩:∃wA,wA=((w.alloc (.cells #[.slice none 0 0] 26)).alloc (.cells #[.slice none 0 0,.slice none 0 0] 29)):=⟨_,rfl⟩
 have hs2:wA.heap.size=w.heap.size+2:=by rw[hwA];simp
 have HBA:Hid (Below w.heap.size w wA):=by rw[hwA];exact Lib.hid (((Below.refl _ _).alloc (Nat.le_refl _) _).alloc (by simp) _)
 have HA:=Lib.hid (h.below HBA.out)
 have K1:Hid (wA.cell? ⟨w.heap.size,0,none⟩=some (.slice none 0 0)∧wA.frozen? ⟨w.heap.size,0,none⟩=false):=by
  unfold Hid;rw[hwA];have c1:=newBox w #[.slice none 0 0] 26 0 _ rfl;exact⟨cellk (below_alloc _ _) c1,frok (below_alloc _ _) c1 (newFrzN w #[.slice none 0 0] 26 0)⟩
 have K2:Hid (wA.cell? ⟨w.heap.size+1,0,none⟩=some (.slice none 0 0)∧wA.cell? ⟨w.heap.size+1,1,none⟩=some (.slice none 0 0)∧wA.frozen? ⟨w.heap.size+1,0,none⟩=false∧wA.frozen? ⟨w.heap.size+1,1,none⟩=false):=by
  unfold Hid;rw[hwA];exact box6q w _ _ _ _
 clear h;go_enter Tryz.func14,Tryz.ntmps14
 go_wp2_with fail
 rw[←hwA];obtain⟨rs,hrs⟩:∃x,x=w.heap.size:=⟨_,rfl⟩
 obtain⟨rq,hrq⟩:∃x,x=w.heap.size+1:=⟨_,rfl⟩
 rw[←hrq] at K2;rw[←hrs] at K1;simp only[←hrq];simp only[←hrs];have hlo1:w.heap.size≤rs:=by omega
 have hlo2:w.heap.size≤rq:=by omega
 have hhi1:rs<wA.heap.size:=by omega
 have hhi2:rq<wA.heap.size:=by omega
 have n1:rs≠rq:=by omega
 clear hrs hrq hwA hs2;refine (hnw.out _ HA.out).mono ?_;rintro e w1 ⟨cb,hcb,rfl,hst,hb1⟩;have HST:=Lib.hid hst;have HB1:=Lib.hid (bnext HBA.out hb1);have HB01:=Lib.hid hb1;have hs1:=hb1.size;clear hst hb1;go_wp2_with fail
 refine (han.out w1 cb HST.out).mono ?_;rintro e w2 ⟨sv,s,h1,b1,d1,dv,l,rfl,hox,hs5,hq1,hd1,hdf,hl9,hl4,hd⟩;obtain⟨xa,xn,xc,rfl⟩:=hox.ints.shape;obtain⟨aa,an,ac,ba,bn,bc,rfl,rfl⟩:=(NearP.ofN (P:=fun _=>True) hq1 (fun _ _ _=>trivial)).shape
 obtain⟨va,vn,vc,rfl⟩:∃a n c,dv=.slice a n c:=by
  obtain⟨a,n,c,e,_⟩:=hdf.rd;exact⟨a,n,c,e⟩
 have hsz2:=hd.size;have HB2:=Lib.hid (DSt.belowN HB1.out hd (by omega));have HOX:=Lib.hid hox;have HQ1:=Lib.hid hq1;have HQD1:=Lib.hid hd1;have HDF:=Lib.hid hdf;have HL9:=Lib.hid hl9;have HL4:=Lib.hid hl4;have HS5:=Lib.hid hs5;obtain⟨w3,hw3⟩:∃w3,w3=((w2.alloc (.cells #[.slice xa xn xc] 26)).alloc (.cells #[.slice aa an ac,.slice ba bn bc] 29)):=⟨_,rfl⟩
 have hbb:Below w2.heap.size w2 w3:=by rw[hw3];exact ((Below.refl _ _).alloc (Nat.le_refl _) _).alloc (by simp) _
 have ho12:OnlyAt [cb] wA w3:=((OnlyAt.ofBelow [cb] HB01.out).same hd.2.1).same (OnlyAt.ofBelow [cb] hbb);have c1:rs∉[cb]:=by simp;omega
 have c2:rq∉[cb]:=by simp;omega
 obtain⟨fs,hfs⟩:∃r,r=w2.heap.size:=⟨_,rfl⟩
 obtain⟨fq,hfq⟩:∃r,r=w2.heap.size+1:=⟨_,rfl⟩
 have HQ6:Hid (Q6 rs rq fs fq w3 (.slice none 0 0) (.slice none 0 0) (.slice none 0 0) (.slice xa xn xc) (.slice aa an ac) (.slice ba bn bc)):=by
  have k0:=newBox w2 #[.slice xa xn xc] 26 0 _ rfl;refine Lib.hid ⟨ho12.cell c1 K1.out.1,ho12.cell c2 K2.out.1,ho12.cell c2 K2.out.2.1,?_,?_,?_,ho12.frozen (by omega) c1 K1.out.2,ho12.frozen (by omega) c2 K2.out.2.2.1,ho12.frozen (by omega) c2 K2.out.2.2.2,?_,?_,?_⟩
  ·rw[hw3,hfs];exact cellk (below_alloc _ _) k0
  ·rw[hw3,hfq];exact (box6q w2 _ _ _ _).1
  ·rw[hw3,hfq];exact (box6q w2 _ _ _ _).2.1
  ·rw[hw3,hfs];exact frok (below_alloc _ _) k0 (newFrzN w2 _ _ 0)
  ·rw[hw3,hfq];exact (box6q w2 _ _ _ _).2.2.1
  ·rw[hw3,hfq];exact (box6q w2 _ _ _ _).2.2.2
 have HEND:Hid (∀wE,OnlyAt [rs,rq] w3.drew wE→DrewDF w (.returned (.tuple #[.agg #[.slice xa xn xc],.agg #[.slice aa an ac,.slice ba bn bc],.slice va vn vc])) wE):=Lib.hid (fun wf k0=>by
  have k:OnlyAt [rs,rq] w3 wf:=(OnlyAt.ofBelow [rs,rq] ((Below.refl w3.heap.size w3).drew)).same k0;have hlo:∀b∈[rs,rq],b<w1.heap.size:=fun b hb=>by simp at hb;omega
  have h0:=(HOX.out.below hbb).only k (fun b hb hm=>by have:=(HOX.out.lo b hb).1;have:=hlo b hm;omega);exact⟨_,s,_,d1,_,l,rfl,⟨_,_,_,rfl,h0.ints⟩,HS5.out,((HQ1.out.below hbb).only k hlo).rd,HQD1.out,((HDF.out.below hbb).only (Nat.le_refl _) k hlo).rd,HL9.out,HL4.out,OnlyAt.below (bnext HB2.out hbb) k (fun b hm=>by simp at hm;omega)⟩)
 have hdif:Dif6 rs rq fs fq:=⟨n1,by omega,by omega,by omega,by omega,by omega⟩;obtain⟨wd,hwd⟩:∃x,x=w3.drew:=⟨_,rfl⟩
 have hz:=HQ6.out.below (Below.refl w3.heap.size w3).drew;have hko:OnlyAt [rs,rq] w3.drew w3.drew:=OnlyAt.refl _ _;rw[←hwd] at hz hko HEND;have HW3:=Lib.hid hw3;have HFS:=Lib.hid hfs;have HFQ:=Lib.hid hfq;clear hox hq1 hd1 hs5 hd hbb ho12 c1 c2 hw3 hfs hfq hdf hl9 hl4;go_wp2_with fail
 rw[←HFQ.out,←HFS.out,←HW3.out];clear HFS HFQ HW3 HQ6 HOX HQ1 HQD1 HDF HL9 HL4 HS5 HB2 HB1 HB01 HST hnw han HBA HA K1 K2;refine wp_region_noPanic ?_;refine wp_region_held_drew (S:=(fun w'=>w'.cell? ⟨fs,0,none⟩=some (.slice xa xn xc)∧w'.cell? ⟨fq,0,none⟩=some (.slice aa an ac)∧w'.cell? ⟨fq,1,none⟩=some (.slice ba bn bc))) (by kernel_rfl) ?_ (fun hHeld=>?_)
 ·(try dsimp only)
  rw[←hwd];exact⟨hz.s0,hz.q0,hz.q1⟩
 refine wpAnyH_take (i:=0) (oi:=_) (v:=?_) rfl (by kernel_rfl) (by kernel_rfl) (by kernel_rfl) (fun _ _ _ h=>h) (Or.inl ⟨by rfl,?_⟩) (by assumption) ?_;rotate_left
 ·(intro w hSw;(try dsimp only at hSw);go_simp<;>with_reducible rfl)
 (try simp only[Act.put,List.setIfInBounds_toArray,List.set_cons_zero,List.set_cons_succ])
 refine wpAnyH_take (i:=1) (oi:=_) (v:=?_) rfl (by kernel_rfl) (by kernel_rfl) (by kernel_rfl) (fun _ _ _ h=>h) (Or.inl ⟨by rfl,?_⟩) (by assumption) ?_;rotate_left
 ·(intro w hSw;(try dsimp only at hSw);go_simp<;>with_reducible rfl)
 (try simp only[Act.put,List.setIfInBounds_toArray,List.set_cons_zero,List.set_cons_succ])
 refine wpAnyH_take (i:=2) (oi:=_) (v:=?_) rfl (by kernel_rfl) (by kernel_rfl) (by kernel_rfl) (fun _ _ _ h=>h) (Or.inl ⟨by rfl,?_⟩) (by assumption) ?_;rotate_left
 ·(intro w hSw;(try dsimp only at hSw);go_simp<;>with_reducible rfl)
 (try simp only[Act.put,List.setIfInBounds_toArray,List.set_cons_zero,List.set_cons_succ])
 clear hHeld;rw[←hwd];clear hwd;refine wpAnyH_ready (rs:=[3]) (by kernel_rfl) (by simp) ?_;refine AllReadyH.cons (o:=_) rfl (fun K hK=>?_) ?_
 ·obtain⟨e0,e1,e2,_,_,_,f0,f1,f2,_,_,_⟩:=id hz
  go_simp
  obtain⟨ws1,hw⟩:∃x,x=(wd.setCell ⟨rs,0,none⟩ (.slice xa xn xc)):=⟨_,rfl⟩
  have hz1:=hz.setRs hdif (.slice xa xn xc);have hko1:OnlyAt [rs,rq] wd (wd.setCell ⟨rs,0,none⟩ (.slice xa xn xc)):=hko.same ((OnlyAt.setCell _ _ _ _).wider (by simp));rw[←hw] at hz1 hko1 ⊢;clear hw e0 e1 e2 f0 f1 f2;refine hK.out _ _ ?_ (fun hHeld=>?_)
  ·(try dsimp only)
   exact⟨hz1.s0,hz1.q0,hz1.q1⟩
  clear hK K hHeld
  (try simp only[Act.put,List.setIfInBounds_toArray,List.set_cons_zero,List.set_cons_succ])
  refine wpAnyH_ready (rs:=[4]) (by kernel_rfl) (by simp) ?_;refine AllReadyH.cons (o:=_) rfl (fun K hK=>?_) ?_
  ·obtain⟨e0,e1,e2,_,_,_,f0,f1,f2,_,_,_⟩:=id hz1
   go_simp
   obtain⟨ws2,hw⟩:∃x,x=((ws1.setCell ⟨rq,0,none⟩ (.slice aa an ac)).setCell ⟨rq,1,none⟩ (.slice ba bn bc)):=⟨_,rfl⟩
   have hz2:=hz1.setRq hdif (.slice aa an ac) (.slice ba bn bc);have hko2:OnlyAt [rs,rq] wd ((ws1.setCell ⟨rq,0,none⟩ (.slice aa an ac)).setCell ⟨rq,1,none⟩ (.slice ba bn bc)):=hko1.same (((OnlyAt.setCell _ _ _ _).same (OnlyAt.setCell _ _ _ _)).wider (by simp));rw[←hw] at hz2 hko2 ⊢;clear hw e0 e1 e2 f0 f1 f2;refine hK.out _ _ ?_ (fun hHeld=>?_)
   ·(try dsimp only)
    exact⟨hz2.s0,hz2.q0,hz2.q1⟩
   clear hK K hHeld
   (try simp only[Act.put,List.setIfInBounds_toArray,List.set_cons_zero,List.set_cons_succ])
   refine wpAnyH_ready (rs:=[5]) (by kernel_rfl) (by simp) ?_;refine AllReadyH.cons (o:=_) rfl (fun K hK=>?_) ?_
   ·go_simp
    refine hK.out _ _ ?_ (fun hHeld=>?_)
    ·(try dsimp only)
     exact⟨hz2.s0,hz2.q0,hz2.q1⟩
    clear hK K hHeld
    (try simp only[Act.put,List.setIfInBounds_toArray,List.set_cons_zero,List.set_cons_succ])
    refine wpAnyH_done (by kernel_rfl) ?_ _;refine NoPanic.normal ?_;go_wp2_with fail
    exact bodyPost_ret (v:=.tuple #[.agg #[.slice xa xn xc],.agg #[.slice aa an ac,.slice ba bn bc],.slice va vn vc]) (by simp[results,Tryz.results14,go_sem,hz2.rs0,hz2.rq0,hz2.rq1]) rfl (HEND.out _ hko2)
   exact AllReadyH.nil
  exact AllReadyH.nil
 exact AllReadyH.nil
end Go.Proofs.YtpedpbbiamhgdaaGreatDoor
