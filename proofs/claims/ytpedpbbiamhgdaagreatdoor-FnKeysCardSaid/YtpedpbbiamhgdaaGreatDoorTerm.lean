import Derived.Test.YtpedpbbiamhgdaaGreatDoorRows
import Derived.WalkKit
import Derived.Lib.Hide
namespace Go.Proofs.YtpedpbbiamhgdaaGreatDoor
open Go.RowKit
set_option linter.unusedVariables false
def varB (t:Int):Bool:=decide (0≤t∧t≤19)
def conB (t:Int):Bool:=decide (-80≤t∧t≤-1)
def termB (t:Int):Bool:=varB t||conB t
def inB (x a b:Int):Bool:=decide (a≤x∧x≤b)
def conOf (t:Int):Int:=if conB t then -1-t else -1
theorem varB_yes {t:Int} (h0:0≤t) (h1:t≤19):varB t=true:=decide_eq_true ⟨h0,h1⟩
theorem varB_no {t:Int} (h:t<0∨19<t):varB t=false:=decide_eq_false (by omega)
theorem conB_yes {t:Int} (h0:-80≤t) (h1:t≤-1):conB t=true:=decide_eq_true ⟨h0,h1⟩
theorem conB_no {t:Int} (h:t < -80∨-1<t):conB t=false:=decide_eq_false (by omega)
theorem ret_bool {a b:Bool} (h:a=b):Ending.returned (.bool a)=.returned (.bool b):=by rw[h]
theorem ret_i64 {a b:Int} (h:a=b):Ending.returned (.int .i64 a)=.returned (.int .i64 b):=by rw[h]
theorem l1In_any (x a b:Int) (w:World) :
  Calls Tryz.prog 98 #[.int .i64 x,.int .i64 a,.int .i64 b] w fun e w'=>e=.returned (.bool (inB x a b))∧w=w':=by
 by_cases h0:a≤x
 ·by_cases h1:x≤b
  ·have H:Hid (inB x a b=true):=decide_eq_true ⟨h0,h1⟩;go_enter Tryz.func98,Tryz.ntmps98
   go_wp2
   go_ret;exact⟨ret_bool H.out.symm,rfl⟩
  ·have H:Hid (inB x a b=false):=decide_eq_false (by omega);have h2:decide (x≤b)=false:=decide_eq_false h1;go_enter Tryz.func98,Tryz.ntmps98
   go_wp2
   go_ret;exact⟨ret_bool H.out.symm,rfl⟩
 ·have H:Hid (inB x a b=false):=decide_eq_false (by omega);have h2:decide (a≤x)=false:=decide_eq_false h0;go_enter Tryz.func98,Tryz.ntmps98
  go_wp2
  go_ret;exact⟨ret_bool H.out.symm,rfl⟩
theorem sIsVar_any (t:Int) (w:World) :
  Calls Tryz.prog 114 #[.int .i64 t] w fun e w'=>e=.returned (.bool (varB t))∧w=w':=by
 have hc:=Lib.hid (l1In_any t 0 19 w);have hv:Hid (inB t 0 19=varB t):=rfl;go_enter Tryz.func114,Tryz.ntmps114
 go_wp2_with (refine hc.out.mono ?_;rintro e w' ⟨rfl,rfl⟩)
 go_ret;exact⟨ret_bool hv.out,rfl⟩
theorem iTermIsVar_any (t:Int) (w:World) :
  Calls Tryz.prog 130 #[.int .i64 t] w fun e w'=>e=.returned (.bool (varB t))∧w=w':=by
 by_cases h0:0≤t
 ·by_cases h1:t<20
  ·have H:Hid (varB t=true):=varB_yes h0 (by omega);go_enter Tryz.func130,Tryz.ntmps130
   go_wp2
   go_ret;exact⟨ret_bool H.out.symm,rfl⟩
  ·have H:Hid (varB t=false):=varB_no (by omega);have h2:decide (t<20)=false:=decide_eq_false h1;go_enter Tryz.func130,Tryz.ntmps130
   go_wp2
   go_ret;exact⟨ret_bool H.out.symm,rfl⟩
 ·have H:Hid (varB t=false):=varB_no (by omega);have h2:decide (0≤t)=false:=decide_eq_false h0;go_enter Tryz.func130,Tryz.ntmps130
  go_wp2
  go_ret;exact⟨ret_bool H.out.symm,rfl⟩
theorem iIsVar_any (t:Int) (w:World) :
  Calls Tryz.prog 81 #[.int .i64 t] w fun e w'=>e=.returned (.bool (varB t))∧w=w':=by
 have hc:=Lib.hid (iTermIsVar_any t w);go_enter Tryz.func81,Tryz.ntmps81
 go_wp2_with (refine hc.out.mono ?_;rintro e w' ⟨rfl,rfl⟩)
 go_ret;exact⟨rfl,rfl⟩
theorem iConstant_any (t:Int) (w:World) (h0:-9223372036854775808≤t) (h1:t≤9223372036854775806) :
  Calls Tryz.prog 193 #[.int .i64 t] w fun e w'=>e=.returned (.int .i64 (-1-t))∧w=w':=by
 have hw:wrap64 (-1-t)=-1-t:=by unfold wrap64;omega
 have HW:=Lib.hid hw;clear hw;go_enter Tryz.func193,Tryz.ntmps193
 go_wp2
 go_ret;exact⟨ret_i64 (by first|rfl|exact HW.out),rfl⟩
theorem iTermIsConst_any (t:Int) (w:World) (h0:-9223372036854775808≤t) (h1:t≤9223372036854775807) :
  Calls Tryz.prog 159 #[.int .i64 t] w fun e w'=>e=.returned (.bool (conB t))∧w=w':=by
 by_cases hn:t<0
 ·have hc:=Lib.hid (iConstant_any t w h0 (by omega));by_cases h2:-1-t≤79
  ·have H:Hid (conB t=true):=conB_yes (by omega) (by omega);have h3:decide (-1-t≤79)=true:=decide_eq_true h2;go_enter Tryz.func159,Tryz.ntmps159
   go_wp2_with (refine hc.out.mono ?_;rintro e w' ⟨rfl,rfl⟩)
   go_ret;exact⟨ret_bool H.out.symm,rfl⟩
  ·have H:Hid (conB t=false):=conB_no (by omega);have h3:decide (-1-t≤79)=false:=decide_eq_false h2;go_enter Tryz.func159,Tryz.ntmps159
   go_wp2_with (refine hc.out.mono ?_;rintro e w' ⟨rfl,rfl⟩)
   go_ret;exact⟨ret_bool H.out.symm,rfl⟩
 ·have H:Hid (conB t=false):=conB_no (by omega);have h2:decide (t<0)=false:=decide_eq_false hn;go_enter Tryz.func159,Tryz.ntmps159
  go_wp2
  go_ret;exact⟨ret_bool H.out.symm,rfl⟩
theorem sConstOf_any (t:Int) (w:World) (h0:-9223372036854775808≤t) (h1:t≤9223372036854775807) :
  Calls Tryz.prog 181 #[.int .i64 t] w fun e w'=>e=.returned (.int .i64 (conOf t))∧w=w':=by
 by_cases h:-80≤t∧t≤-1
 ·have hc:Hid (Calls Tryz.prog 98 #[.int .i64 t,.int .i64 (-80),.int .i64 (-1)] w fun e w'=>e=.returned (.bool true)∧w=w'):=
   (l1In_any t (-80) (-1) w).mono fun e w' ⟨he,hw⟩=>⟨by rw[he,show inB t (-80) (-1)=true from decide_eq_true h],hw⟩
  have H:Hid (conOf t=-1-t):=by unfold Hid conOf;rw[conB_yes h.1 h.2];rfl
  obtain⟨ha,hb⟩:=h;have hw:wrap64 (-1-t)=-1-t:=by unfold wrap64;omega
  have HW:=Lib.hid hw;clear hw;go_enter Tryz.func181,Tryz.ntmps181
  go_wp2_with (refine hc.out.mono ?_;rintro e w' ⟨rfl,rfl⟩)
  go_ret;exact⟨ret_i64 (by first|exact H.out.symm|(rw[H.out];exact HW.out)),rfl⟩
 ·have hc:Hid (Calls Tryz.prog 98 #[.int .i64 t,.int .i64 (-80),.int .i64 (-1)] w fun e w'=>e=.returned (.bool false)∧w=w'):=
   (l1In_any t (-80) (-1) w).mono fun e w' ⟨he,hw⟩=>⟨by rw[he,show inB t (-80) (-1)=false from decide_eq_false h],hw⟩
  have H:Hid (conOf t=-1):=by unfold Hid conOf;rw[conB_no (by omega)];rfl
  clear h;go_enter Tryz.func181,Tryz.ntmps181
  go_wp2_with (refine hc.out.mono ?_;rintro e w' ⟨rfl,rfl⟩)
  go_ret;exact⟨ret_i64 H.out.symm,rfl⟩
theorem sIsTerm_any (t:Int) (w:World) (h0:-9223372036854775808≤t) (h1:t≤9223372036854775807) :
  Calls Tryz.prog 155 #[.int .i64 t] w fun e w'=>e=.returned (.bool (termB t))∧w=w':=by
 have hv:=Lib.hid (sIsVar_any t w);have hc:=Lib.hid (sConstOf_any t w h0 h1);by_cases h:0≤t∧t≤19
 ·have e1:varB t=true:=varB_yes h.1 h.2;have H:Hid (termB t=true):=by unfold Hid termB;rw[e1];rfl
  clear h;go_enter Tryz.func155,Tryz.ntmps155
  go_wp2_with (refine hv.out.mono ?_;rintro e w' ⟨rfl,rfl⟩)
  go_ret;exact⟨ret_bool H.out.symm,rfl⟩
 ·have e1:varB t=false:=varB_no (by omega);by_cases hk:-80≤t∧t≤-1
  ·have e2:decide (0≤conOf t)=true:=by
    unfold conOf;rw[conB_yes hk.1 hk.2];exact decide_eq_true (by simp;omega)
   have H:Hid (termB t=true):=by unfold Hid termB;rw[e1,conB_yes hk.1 hk.2];rfl
   clear h hk;go_enter Tryz.func155,Tryz.ntmps155
   go_wp2_with (first|(refine hv.out.mono ?_;rintro e w' ⟨rfl,rfl⟩)|(refine hc.out.mono ?_;rintro e w' ⟨rfl,rfl⟩))
   go_ret;exact⟨ret_bool H.out.symm,rfl⟩
  ·have e2:decide (0≤conOf t)=false:=by
    unfold conOf;rw[conB_no (by omega)];rfl
   have H:Hid (termB t=false):=by unfold Hid termB;rw[e1,conB_no (by omega)];rfl
   clear h hk;go_enter Tryz.func155,Tryz.ntmps155
   go_wp2_with (first|(refine hv.out.mono ?_;rintro e w' ⟨rfl,rfl⟩)|(refine hc.out.mono ?_;rintro e w' ⟨rfl,rfl⟩))
   go_ret;exact⟨ret_bool H.out.symm,rfl⟩
theorem iTermIsValid_any (t:Int) (w:World) (h0:-9223372036854775808≤t) (h1:t≤9223372036854775807) :
  Calls Tryz.prog 129 #[.int .i64 t] w fun e w'=>e=.returned (.bool (termB t))∧w=w':=by
 have hv:=Lib.hid (iTermIsVar_any t w);have hc:=Lib.hid (iTermIsConst_any t w h0 h1);by_cases h:0≤t∧t≤19
 ·have e1:varB t=true:=varB_yes h.1 h.2;have H:Hid (termB t=true):=by unfold Hid termB;rw[e1];rfl
  clear h;go_enter Tryz.func129,Tryz.ntmps129
  go_wp2_with (refine hv.out.mono ?_;rintro e w' ⟨rfl,rfl⟩)
  go_ret;exact⟨ret_bool H.out.symm,rfl⟩
 ·have e1:varB t=false:=varB_no (by omega);have H:Hid (termB t=conB t):=by unfold Hid termB;rw[e1];rfl
  clear h;go_enter Tryz.func129,Tryz.ntmps129
  go_wp2_with (first|(refine hv.out.mono ?_;rintro e w' ⟨rfl,rfl⟩)|(refine hc.out.mono ?_;rintro e w' ⟨rfl,rfl⟩))
  go_ret;exact⟨ret_bool H.out.symm,rfl⟩
theorem iIsTerm_any (t:Int) (w:World) (h0:-9223372036854775808≤t) (h1:t≤9223372036854775807) :
  Calls Tryz.prog 80 #[.int .i64 t] w fun e w'=>e=.returned (.bool (termB t))∧w=w':=by
 have hc:=Lib.hid (iTermIsValid_any t w h0 h1);go_enter Tryz.func80,Tryz.ntmps80
 go_wp2_with (refine hc.out.mono ?_;rintro e w' ⟨rfl,rfl⟩)
 go_ret;exact⟨rfl,rfl⟩
end Go.Proofs.YtpedpbbiamhgdaaGreatDoor
