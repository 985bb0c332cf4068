import Derived.Test.YtpedpbbiamhgdaaGreatDoorS5all
import Derived.Test.YtpedpbbiamhgdaaGreatDoorAtomK
import Derived.Lib.LazyBuf
namespace Go.Proofs.YtpedpbbiamhgdaaGreatDoor
open Go Go.Sort Go.RowKit
set_option linter.unusedVariables false
set_option maxHeartbeats 1000000 in
theorem iClone_any (w:World) (v:Value) (l:List Int) (h:Ints w v l) (hz:l.length≤1048576) :
  Calls Tryz.prog 176 #[v] w (GaveInts w l):=by
 have HI:=Lib.hid h;obtain⟨a,n,cap,rfl,hl,hn,hm,hcell⟩:=h.cases;have HZ:=Lib.hid hz;have HL:=Lib.hid hl;have HC:=Lib.hid hcell;clear h hcell hl hz;have hnil:=fun w=>Go.run_eql_slice_nil (P:=Tryz.prog) w 24 3 a n cap Tryz.underlying24
 cases a with
 |none=>
  have h0:n=0:=by
   rcases Nat.eq_zero_or_pos n with h|h
   ·exact h
   ·obtain⟨b,off,h1,_⟩:=HC.out h;cases h1
  have HE:Hid (l=[]):=List.eq_nil_of_length_eq_zero (by rw[HL.out];exact h0);subst h0;go_enter Tryz.func176,Tryz.ntmps176
  go_wp2_with fail
  go_ret;rw[HE.out];exact⟨_,[],rfl,⟨Ints.nil _,.inl ⟨none,0,rfl,rfl⟩⟩,⟨by simp,fun b hb=>by simp at hb⟩,Below.refl _ _⟩
 |some ad=>
  have hal:Below w.heap.size w (w.alloc (.cells #[] 3)):=(Below.refl w.heap.size w).alloc (Nat.le_refl _) _
  have hlit:Built .i64 3 w (w.alloc (.cells #[] 3)) (.slice (some ⟨w.heap.size,0,none⟩) 0 0) []:=by
   have:=Built.lit .i64 3 w w [] (Nat.zero_le _) (Below.refl _ _);simpa using this
  have HLIT:=Lib.hid hlit;have HIA:=Lib.hid (HI.out.below hal);clear hlit hal;go_enter Tryz.func176,Tryz.ntmps176
  go_wp2_with (at_builtin;refine wpList_appInts rfl (.tmp 5) (.tmp 6) 24 rfl 3 Tryz.underlying24 info_i64 _ [] rfl HLIT.out _ l rfl HIA.out (by have:=HZ.out;simp;omega) ?_)
  intro v' w3 hown;have HOW:=Lib.hid hown;clear hown;go_wp2_with fail
  go_ret;obtain⟨bs,ho,hnd,hfr⟩:=OInts.ofBuilt HOW.out (by simpa using HI.out.1);exact⟨_,bs,rfl,ho,⟨hnd,hfr⟩,HOW.out.below⟩
end Go.Proofs.YtpedpbbiamhgdaaGreatDoor
