import Derived.Test.YtpedpbbiamhgdaaGreatDoorS6all
import Derived.Test.YtpedpbbiamhgdaaGreatDoorM8
import Derived.Test.YtpedpbbiamhgdaaGreatDoorI6dat
namespace Go.Proofs.YtpedpbbiamhgdaaGreatDoor
open Go Go.RowKit
set_option linter.unusedVariables false
def ev8 (β:Nat→Int) (t:Int):Int:=if t<0 then -1-t else β t.toNat
def Com8 (β:Nat→Int) (b:List Int):Prop:=b.length=40∧∀k:Nat,k<20→b.getD (20+k) 0=0∨b.getD k 0=β k
def Bd8 (b:List Int) (k:Nat):Prop:=b.getD (20+k) 0≠0
theorem getD_set8 (m:List Int) (k j:Nat) (u:Int) (hk:k<m.length):(m.set k u).getD j 0=if j=k then u else m.getD j 0:=by
 rw[List.getD_eq_getElem?_getD,List.getD_eq_getElem?_getD,List.getElem?_set];by_cases h:k=j
 ·subst h;simp[hk]
 ·rw[if_neg h,if_neg (fun e=>h e.symm)]
theorem com8_empty (β:Nat→Int):Com8 β emptyB:=by
 refine⟨by simp[emptyB],fun k hk=>.inl ?_⟩;unfold emptyB;rw[List.getD_eq_getElem?_getD,List.getElem?_append_right (by simp),List.getElem?_replicate];simp only[List.length_replicate];rw[if_pos (by omega)];rfl
theorem step8 {β:Nat→Int} {b:List Int} {t:Int} (h:Com8 β b) (ht:t<20):∃b',bindStep b t (ev8 β t)=some b'∧Com8 β b'∧(∀k,k<20→Bd8 b k→Bd8 b' k)∧(0≤t→Bd8 b' t.toNat):=by
 unfold bindStep ev8;by_cases h0:t<0
 ·rw[if_pos h0,if_pos h0,if_pos rfl];exact⟨b,rfl,h,fun k _ hk=>hk,fun h1=>by omega⟩
 ·rw[if_neg h0,if_neg h0];obtain⟨n,rfl⟩:=Int.eq_ofNat_of_zero_le (by omega:0≤t);simp only[Int.toNat_natCast];have hn:n<20:=by omega
  by_cases hz:b.getD (20+n) 0=0
  ·rw[if_pos hz]
   have G:∀j,((b.set n (β n)).set (20+n) 1).getD j 0=if j=20+n then 1 else if j=n then β n else b.getD j 0:=by
    intro j;have l1:n<b.length:=by rw[h.1];omega
    have l2:20+n<(b.set n (β n)).length:=by rw[List.length_set,h.1];omega
    rw[getD_set8 _ _ _ _ l2,getD_set8 _ _ _ _ l1]
   refine⟨_,rfl,⟨by simpa using h.1,fun k hk=>?_⟩,fun k hk hb=>?_,fun _=>?_⟩
   ·rw[G,G,if_neg (by omega:¬20+k=n),if_neg (by omega:¬k=20+n)];by_cases e:k=n
    ·subst e;rw[if_pos rfl,if_pos rfl];exact .inr rfl
    ·rw[if_neg (by omega),if_neg e];exact h.2 k hk
   ·unfold Bd8 at hb ⊢;rw[G,if_neg (by omega:¬20+k=n)]
    split
    ·decide
    ·exact hb
   ·unfold Bd8;rw[G,if_pos rfl];decide
  ·rw[if_neg hz];have hv:b.getD n 0=β n:=(h.2 n hn).elim (fun e=>absurd e hz) id;rw[if_pos hv];exact⟨b,rfl,h,fun k _ hk=>hk,fun _=>hz⟩
theorem bindTo8 {β:Nat→Int} {args b:List Int} (h:Com8 β b) (ht:∀t∈args,t<20):∀i,i≤args.length→∃b',bindTo args (args.map (ev8 β)) b i=some b'∧Com8 β b'∧(∀k,k<20→Bd8 b k→Bd8 b' k)∧∀j,j<i→0≤args.getD j 0→Bd8 b' (args.getD j 0).toNat
 |0,_=>⟨b,rfl,h,fun k _ hk=>hk,fun j hj=>by omega⟩
 |i+1,hi=>by
  obtain⟨b1,h1,h2,h3,h4⟩:=bindTo8 h ht i (by omega);have hil:i<args.length:=by omega
  have hg:args.getD i 0=args[i]:=by rw[List.getD_eq_getElem?_getD,List.getElem?_eq_getElem hil];rfl
  have hlt:args.getD i 0<20:=by rw[hg];exact ht _ (List.getElem_mem hil)
  obtain⟨b2,k1,k2,k3,k4⟩:=step8 h2 hlt
  have hv:(args.map (ev8 β)).getD i 0=ev8 β (args.getD i 0):=by
   rw[hg,List.getD_eq_getElem?_getD,List.getElem?_map,List.getElem?_eq_getElem hil];rfl
  refine⟨b2,?_,k2,fun k hk hb=>k3 k hk (h3 k hk hb),fun j hj h0=>?_⟩
  ·show (bindTo args (args.map (ev8 β)) b i).bind _=_;rw[h1,hv];exact k1
  ·rcases Nat.lt_or_ge j i with hji|hji
   ·have hl:args.getD j 0<20:=by
     rw[List.getD_eq_getElem?_getD,List.getElem?_eq_getElem (by omega:j<args.length)];exact ht _ (List.getElem_mem _)
    exact k3 _ (by omega) (h4 j hji h0)
   ·obtain rfl:j=i:=by omega
    exact k4 h0
theorem search8 {β:Nat→Int} {db:List AtomD}:∀{rest:List AtomD} {b:List Int},Com8 β b→(∀a∈rest,∀t∈a.2,t<20)→(∀a∈rest,(a.1,a.2.map (ev8 β))∈db)→∃r∈searchN db rest b,∀k,k<20→(Bd8 b k∨∃a∈rest,(k:Int)∈a.2)→r.getD k 0=β k
 |[],b,h,_,_=>⟨b.take 20,List.mem_singleton.2 rfl,fun k hk hb=>by
  rcases hb with hb|⟨a,ha,_⟩
  ·have:=(h.2 k hk).elim (fun e=>absurd e hb) id;rw[List.getD_eq_getElem?_getD,List.getElem?_take_of_lt hk,←List.getD_eq_getElem?_getD];exact this
  ·cases ha⟩
 |a::rest,b,h,ht,hd=>by
  obtain⟨b1,h1,h2,h3,h4⟩:=bindTo8 (b:=b) h (ht a (List.mem_cons_self ..)) a.2.length (Nat.le_refl _);obtain⟨r,hr,hr2⟩:=search8 (rest:=rest) h2 (fun x hx=>ht x (List.mem_cons_of_mem _ hx)) (fun x hx=>hd x (List.mem_cons_of_mem _ hx));refine⟨r,?_,fun k hk hb=>?_⟩
  ·rw[searchN_cons];refine List.mem_flatMap.2 ⟨(a.1,a.2.map (ev8 β)),hd a (List.mem_cons_self ..),?_⟩;unfold hitN;rw[if_pos ⟨rfl,by simp⟩];have:bindL a.2 (a.2.map (ev8 β)) b=some b1:=h1;rw[this];exact hr
  ·refine hr2 k hk ?_;rcases hb with hb|⟨x,hx,hk2⟩
   ·exact .inl (h3 k hk hb)
   ·rcases List.mem_cons.1 hx with rfl|hx
    ·obtain⟨j,hj⟩:=List.mem_iff_getElem?.1 hk2;have hjl:=(List.getElem?_eq_some_iff.1 hj).1;have hg:x.2.getD j 0=(k:Int):=by rw[List.getD_eq_getElem?_getD,hj];rfl
     have:=h4 j hjl (by rw[hg];omega);rw[hg] at this;exact .inl (by simpa using this)
    ·exact .inr ⟨x,hx,hk2⟩
theorem bvStep_mem8 {out:List Int} {t x:Int} (h:x∈bvStep out t):x∈out∨x=t:=by
 unfold bvStep at h
 split at h
 ·rcases List.mem_append.1 h with h|h
  ·exact .inl h
  ·exact .inr (List.mem_singleton.1 h)
 ·exact .inl h
theorem bv_mem8:∀{l out:List Int} {x:Int},x∈l.foldl bvStep out→x∈out∨x∈l
 |[],out,x,h=>.inl h
 |y::l,out,x,h=>by
  rw[List.foldl_cons] at h;rcases bv_mem8 h with h|h
  ·rcases bvStep_mem8 h with h|h
   ·exact .inl h
   ·exact .inr (by rw[h];exact List.mem_cons_self ..)
  ·exact .inr (List.mem_cons_of_mem _ h)
theorem bodyVars_mem8 {l:List AtomD} {x:Int} (h:x∈bodyVars l):∃a∈l,x∈a.2:=by
 unfold bodyVars at h;rcases bv_mem8 h with h|h
 ·cases h
 ·exact List.mem_flatMap.1 h
theorem search_tup8 {β:Nat→Int} {s:List Int} {d:QueryD} {db:List AtomD} (h:fineB s d 4=true) (hd:∀a∈d.2,(a.1,a.2.map (ev8 β))∈db):∃r∈searchN db d.2 emptyB,tupL d.1 r=d.1.map (ev8 β):=by
 obtain⟨r,hr,h2⟩:=search8 (com8_empty β) (fine_vars h) hd;refine⟨r,hr,List.map_congr_left (fun t ht=>?_)⟩;unfold tupT ev8;by_cases h0:t<0
 ·rw[if_pos h0,if_pos h0]
 ·rw[if_neg h0,if_neg h0];unfold fineB at h;simp only[Bool.and_eq_true] at h;have h3:=List.all_eq_true.1 h.2.2.2.2 t ht;unfold termsB at h;simp only[Bool.and_eq_true] at h;have h4:=term_in (List.all_eq_true.1 h.2.1.1 t ht);unfold headOk at h3;have hv:varB t=true:=varB_yes (by omega) h4.2;rw[hv] at h3;simp at h3;obtain⟨a,ha,hta⟩:=bodyVars_mem8 h3;exact h2 t.toNat (by omega) (.inr ⟨a,ha,by rw[Int.toNat_of_nonneg (by omega)];exact hta⟩)
theorem fine_frz {s:List Int} {d:QueryD} (h:fineB s d 4=true):frzOk d=true:=by
 have h1:=fine_len h;unfold fineB at h;simp only[Bool.and_eq_true] at h;refine frz_yes h.2.1 (by omega) (fun i a ha=>?_);have h3:=List.all_eq_true.1 h.2.2.2.1 a (List.mem_of_getElem? ha);unfold isAtomB at h3;simp only[Bool.and_eq_true] at h3;exact h3.2
theorem frz_db {s:List Int} {d:QueryD} (h:fineB s d 4=true):isDbB s (frzDb d)=true:=by
 have hok:=fine_frz h;have h8:=frzDb_8 d;rw[frzDb_yes hok] at h8 ⊢;obtain⟨f1,f2,f3⟩:=frzTo_ok d.2 d.2.length (Nat.le_refl _);unfold fineB at h;simp only[Bool.and_eq_true] at h;unfold isDbB;rw[h.1,decide_eq_true (by omega),Bool.and_true,Bool.and_true,List.all_eq_true];intro i hi;have hil:=List.mem_range.1 hi;have hg:=some_getD hil;obtain⟨a,ha,he⟩:=(f2 _).1 (List.mem_of_getElem? hg);rw[List.take_length] at ha;have h3:=List.all_eq_true.1 h.2.2.2.1 a ha;unfold isAtomB at h3;simp only[Bool.and_eq_true] at h3;unfold okAt
 have hf:isFactB s ((frzTo d.2 d.2.length).getD i zF).1 ((frzTo d.2 d.2.length).getD i zF).2=true:=by
  rw[←he];unfold isFactB fct8;simp only[Bool.and_eq_true,decide_eq_true_eq,List.length_map];refine⟨⟨⟨h.1,h3.1.1.2⟩,by simpa using h3.1.2⟩,List.all_eq_true.2 (fun x hx=>?_)⟩;obtain⟨t,ht,rfl⟩:=List.mem_map.1 hx;have:=val8_of (List.all_eq_true.1 (terms_all h3.2) t ht);unfold valB inB;exact decide_eq_true ⟨this.1,this.2.1⟩
 rw[hf,Bool.true_and];by_cases h0:i=0
 ·rw[decide_eq_true h0,Bool.true_or]
 ·rw[f1 (i-1) i (by omega) hil,Bool.or_true]
theorem ans_mem8 {s:List Int} {d:QueryD} {db:List AtomD} (h:fineB s d 4=true) (h2:isDbB s db=true) (t:List Int):t∈answersN s d db↔∃r∈searchN db d.2 emptyB,tupL d.1 r=t:=by
 unfold answersN bindingsN;rw[if_pos ⟨h,h2⟩,(sortL_once _).2 t,List.mem_map];constructor
 ·rintro⟨r,hr,e⟩;exact⟨r,((sortL_once _).2 r).1 hr,e⟩
 ·rintro⟨r,hr,e⟩;exact⟨r,((sortL_once _).2 r).2 hr,e⟩
end Go.Proofs.YtpedpbbiamhgdaaGreatDoor
