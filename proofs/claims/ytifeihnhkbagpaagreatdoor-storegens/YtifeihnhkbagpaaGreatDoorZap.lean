/- Joined. -/
import Derived.Test.YtifeihnhkbagpaaGreatDoorZan
import Derived.Test.YtifeihnhkbagpaaGreatDoorZao
import Derived.Deep.RegionHeld3
import Derived.Deep.DrawnRows
import Derived.Laws.ResultCell
set_option maxRecDepth 100000
set_option maxHeartbeats 4000000
namespace Go.Proofs.YtifeihnhkbagpaaGreatDoor.P
open ChangeShapes WideShapes ChangeAt RowKit
attribute [local go_sem ↓] Go.wp_at_zero Go.wp_at_succ
theorem Hq(kd nm:Int)(g:Nat)(s:ByteArray)(h1:1<=kd)(h2:kd<=4)(h3:0<=nm)(h4:nm<16384)(h5:s.size<=237)(w:World):
 Calls Tryz.prog 122 #[.agg #[.int .i64 kd,.int .i64 nm,.int .u64 g,.string s]] w fun e w'=>e=.returned (.bool true)/\Kept w w':=by
 have h5:(s.size:Int)<=237:=by omega
 go_enter Tryz.func122,Tryz.ntmps122;go_wp2;go_ret;exact⟨rfl,(Kept.refl w).alloc _⟩
theorem UX(kd nm:Int)(g:Nat)(s:ByteArray)(h:¬ (1<=kd/\kd<=4/\0<=nm/\nm<16384/\s.size<=237))(w:World):
 Calls Tryz.prog 122 #[.agg #[.int .i64 kd,.int .i64 nm,.int .u64 g,.string s]] w fun e w'=>e=.returned (.bool false)/\Kept w w':=by
 have HK:Hid (∀ o,Kept w (w.alloc o)):=fun o=>(Kept.refl w).alloc o
 by_cases h1:1<=kd
 ·by_cases h2:kd<=4
  ·by_cases h3:0<=nm
   ·by_cases h4:nm<16384
    ·have h5:¬ (s.size:Int)<=237:=fun h5=>h ⟨h1,h2,h3,h4,by omega⟩
     clear h;go_enter Tryz.func122,Tryz.ntmps122;go_wp2;go_ret;exact⟨rfl,HK.out _⟩
    ·clear h
     go_enter Tryz.func122,Tryz.ntmps122;go_wp2;go_ret;exact⟨rfl,HK.out _⟩
   ·clear h
    go_enter Tryz.func122,Tryz.ntmps122;go_wp2;go_ret;exact⟨rfl,HK.out _⟩
  ·clear h
   go_enter Tryz.func122,Tryz.ntmps122;go_wp2;go_ret;exact⟨rfl,HK.out _⟩
 ·clear h
  go_enter Tryz.func122,Tryz.ntmps122;go_wp2;go_ret;exact⟨rfl,HK.out _⟩
structure Pg (w:World) (b:Nat) (kd nm:Int) (g:Int) (s:ByteArray) (t:TypeId):Prop where
 out:w.heap[b]? = some (.cells #[.int .i64 kd,.int .i64 nm,.int .u64 g,.string s] t)
variable {w w':World}
theorem Kept.pg(h:Kept w w'){b:Nat}{kd nm:Int}{g:Int}{s:ByteArray}{t:TypeId}(k:Pg w b kd nm g s t):Pg w' b kd nm g s t:=⟨h.block k.out⟩
variable {b:Nat}{kd nm g:Int}{s:ByteArray}{t:TypeId}
theorem Pg.cs(k:Pg w b kd nm g s t) :
  w.cell? ⟨b,0,none⟩=some (.int .i64 kd)/\w.cell? ⟨b,1,none⟩=some (.int .i64 nm)/\w.cell? ⟨b,2,none⟩=some (.int .u64 g)/\w.cell? ⟨b,3,none⟩=some (.string s):=by
 refine⟨?_,?_,?_,?_⟩;all_goals rw[cell_of_row w b _ _ _ _ k.out]
 all_goals rfl
theorem Pg.alloc(w:World)(kd nm:Int)(g:Int)(s:ByteArray)(t:TypeId):Pg (w.alloc (.cells #[.int .i64 kd,.int .i64 nm,.int .u64 g,.string s] t)) w.heap.size kd nm g s t:=
 ⟨by show (w.heap.push _)[w.heap.size]? = _;simp⟩
theorem zeros(c:Nat):(⟨(Lib.repeatL [0] c).toArray⟩:ByteArray)=bs (List.replicate c 0):=by
 unfold bs;congr 2;induction c with
 | zero=>rfl
 | succ c ih=>simp[Lib.repeatL,List.replicate_succ]at ih ⊢;rw[ih]
theorem UY(kd nm:Int)(g:Nat)(s:ByteArray)(h:¬ (1<=kd/\kd<=4/\0<=nm/\nm<16384/\s.size<=237))(w:World):
 Calls Tryz.prog 90 #[.agg #[.int .i64 kd,.int .i64 nm,.int .u64 g,.string s]] w fun e w'=>e=.returned (.string ⟨#[]⟩)/\Kept w w':=by
 have h9:=UX kd nm g s h;clear h;go_enter Tryz.func90,Tryz.ntmps90;go_wp2_with (go_at_call 122;refine (h9 _).mono ?_;rintro e w1 ⟨rfl,k1⟩);go_ret;exact⟨rfl,((Kept.refl w).alloc _).trans k1⟩
theorem QW(k n g:Nat)(l:List Nat)(h1:1<=k)(h2:k<=4)(h4:n<16384)(hg:g<18446744073709551616)(h5:l.length<=237)(w:World):
 Calls Tryz.prog 90 #[.agg #[.int .i64 k,.int .i64 n,.int .u64 g,.string (bs l)]] w fun e w'=>e=.returned (.string (bs (iw k n g l)))/\Kept w w':=by
 have hz:=au l;have h9:=Hq k n g (bs l) (by omega) (by omega) (by omega) (by omega) (by omega);have a1:=lV k (by omega) 1;have a2:=lV n (by omega) 4;have a3:=lV g hg 8;have a4:=lV l.length (by omega) 2;have a5:∀ w,Calls Tryz.prog 124 #[.string ⟨#[0]⟩,.int .i64 (237-(l.length:Int))] w fun e w'=>e=.returned (.string (bs (List.replicate (237-l.length) 0)))/\Kept w w':=by
  intro w;have:=Tryz.strings_Repeat ⟨#[0]⟩ (237-l.length) w (by omega) (by show 1*(237-l.length)<=140737488355328;omega);rw[show ((237-l.length:Nat):Int)=237-(l.length:Int) by omega]at this;refine this.mono ?_;rintro e w' ⟨rfl,hb⟩;exact⟨by rw[<- zeros],⟨hb⟩⟩
 have a6:∀ w,Calls Tryz.prog 125 #[.string (bs (iC k n g l))] w fun e w'=>e=.returned (.int .u32 (QP (iC k n g l):Nat))/\Kept w w':=
  fun w=>QV (bs (iC k n g l)) (by rw[au,oU _ _ _ _ h5];decide) w
 have hcl:=UR (iC k n g l);have a7:=lV (QP (iC k n g l)) (by omega) 4;rw[show rD 1=1 from rfl]at a1;rw[show rD 4=4 from rfl]at a2 a7;rw[show rD 8=8 from rfl]at a3;rw[show rD 2=2 from rfl]at a4;have z1:(bs (bD k 1)).size=1:=by rw[au,aQ]
 have z2:(bs (bD n 4)).size=4:=by rw[au,aQ]
 have z3:(bs (bD g 8)).size=8:=by rw[au,aQ]
 have z4:(bs (bD l.length 2)).size=2:=by rw[au,aQ]
 have z5:(bs (List.replicate (237-l.length) 0)).size=237-l.length:=by rw[au];simp
 have z6:(bs (iC k n g l)).size=252:=by rw[au,oU _ _ _ _ h5]
 have z7:(bs (bD (QP (iC k n g l)) 4)).size=4:=by rw[au,aQ]
 have c1:bs (bD k 1)++bs (bD n 4)++bs (bD g 8)++bs (bD l.length 2)++bs l++bs (List.replicate (237-l.length) 0)=bs (iC k n g l):=by
  simp only[eU,iC,aap]
 have c2:bs (iC k n g l)++bs (bD (QP (iC k n g l)) 4)=bs (iw k n g l):=eU _ _;generalize QP (iC k n g l)=C at *;generalize bs (iw k n g l)=R at *;generalize bs (iC k n g l)=H at *;generalize bs (bD k 1)=s1 at *;generalize bs (bD n 4)=s2 at *;generalize bs (bD g 8)=s3 at *;generalize bs (bD l.length 2)=s4 at *;generalize bs (List.replicate (237-l.length) 0)=s5 at *;generalize bs (bD C 4)=s6 at *;generalize bs l=s at *;generalize l.length=L at *;subst hz;have u1:IntKind.u64.wrap (k:Int)=(k:Int):=by rw[IntKind.wrap_u64];omega
 have u2:IntKind.u64.wrap (n:Int)=(n:Int):=by rw[IntKind.wrap_u64];omega
 have u4:IntKind.u64.wrap (s.size:Int)=(s.size:Int):=by rw[IntKind.wrap_u64];omega
 have u5:IntKind.i64.wrap (237-(s.size:Int))=237-(s.size:Int):=by rw[IntKind.wrap_i64];omega
 have b0:(s.size:Int)<=237:=by omega
 have b1:(s5.size:Int)<=237:=by omega
 have y1:¬ 9223372036854775807<15+s.size:=by omega
 have y2:¬ 9223372036854775807<15+s.size+s5.size:=by omega
 clear z5;go_enter Tryz.func90,Tryz.ntmps90;go_wp2_with (go_at_call 122;refine (h9 _).mono ?_;rintro e w1 ⟨rfl,k1⟩;have P0:=(k1.drew).pg (Pg.alloc w k n g s 157);obtain⟨c0,c1,c2,c3⟩:=P0.cs);go_region_held3 (fun W=>W.cell? ⟨w.heap.size,0,none⟩=some (.int .i64 k)/\W.cell? ⟨w.heap.size,1,none⟩=some (.int .i64 n)/\W.cell? ⟨w.heap.size,2,none⟩=some (.int .u64 g)/\W.cell? ⟨w.heap.size,3,none⟩=some (.string s)) (go_keep) (first
  | (go_at_call 123;with_reducible refine (a1 _).mono ?_;rintro e v1 ⟨rfl,q1⟩;have P1:=q1.pg P0;obtain⟨c10,c11,c12,c13⟩:=P1.cs)
  | (go_at_call 123;with_reducible refine (a2 _).mono ?_;rintro e v2 ⟨rfl,q2⟩;have P2:=q2.pg P1;obtain⟨c20,c21,WQ,c23⟩:=P2.cs)
  | (go_at_call 123;with_reducible refine (a3 _).mono ?_;rintro e v3 ⟨rfl,q3⟩;have P3:=q3.pg P2;obtain⟨Wu,c31,c32,QY⟩:=P3.cs)
  | (go_at_call 123;with_reducible refine (a4 _).mono ?_;rintro e v4 ⟨rfl,q4⟩;have P4:=q4.pg P3;obtain⟨c40,Zo,c42,c43⟩:=P4.cs)
  | (go_at_call 124;with_reducible refine (a5 _).mono ?_;rintro e v5 ⟨rfl,q5⟩;have P5:=q5.pg P4;obtain⟨c50,c51,c52,c53⟩:=P5.cs))
 all_goals clear P0 P1 P2 P3 P4 P5
 all_goals go_wp2_with (first
  | (go_at_call 125;with_reducible refine (a6 _).mono ?_;rintro e v6 ⟨rfl,q6⟩)
  | (go_at_call 123;with_reducible refine (a7 _).mono ?_;rintro e v7 ⟨rfl,q7⟩))
 all_goals go_ret
 all_goals exact⟨rfl,((((((((Kept.refl w).alloc _).trans k1).drew.trans q1).trans q2).trans q3).trans q4).trans q5).trans (q6.trans q7)⟩
theorem fB(kd nm:Int)(g:Nat)(hg:g<18446744073709551616)(l:List Nat)(w:World):
 Calls Tryz.prog 90 #[.agg #[.int .i64 kd,.int .i64 nm,.int .u64 g,.string (bs l)]] w fun e w'=>e=.returned (.string (bs (jX kd nm g l)))/\Kept w w':=by
 by_cases h:May kd nm l
 ·rw[qw h]
  obtain⟨h1,h2,h3,h4,h5⟩:=h;have:=QW kd.toNat nm.toNat g l (by omega) (by omega) (by omega) hg h5 w;rwa [show ((kd.toNat:Nat):Int)=kd by omega,show ((nm.toNat:Nat):Int)=nm by omega]at this
 ·rw[CR h]
  refine UY kd nm g (bs l) ?_ w;rw[au];exact h
theorem af{P:Program}{fn:Func}{p u:Tmp}{ty:TypeId}(h:fn.results=#[.cell p ty,.tmp u])(tmps:Array Value)(w:World)(g:Nat)(t:TypeId)(cs:Array Value)(fr:Nat×Nat)(d:TypeDesc)(hp:tmps.getD p undef=.pointer (some ⟨g,0,none⟩))(hg:w.heap[g]? = some (.cells cs t fr))(hu:P.underlying ty=some d)(hd:(match d with | .struct _ | .array _ _=>true | _=>false)=true)(hi:(P.info? ty).map (·.size)=some cs.size) :
    (results fn tmps).run P w=.ok (.tuple #[.agg cs,tmps.getD u undef]) w:=by
  rw[results_cell_tmp h,hp];simp[asAddr,run_loadVar_row w g t ty cs fr d hg hu hd hi]
theorem jS:(Tryz.prog.info? 157).map (·.size)=some 4:=by kernel_rfl
theorem Pg.fz(k:Pg w b kd nm g s t)(j:Nat):w.frozen? ⟨b,j,none⟩=false:=frozen_of_row w b j _ _ k.out
theorem Pg.lt(k:Pg w b kd nm g s t):b<w.heap.size:=(aaa.1 k.out).1
variable {c:Nat}
theorem On.pg(h:On c w w'){b:Nat}{kd nm:Int}{g:Int}{s:ByteArray}{t:TypeId}(k:Pg w b kd nm g s t)(hb:b≠c):Pg w' b kd nm g s t:=
 ⟨(h.rest b k.lt hb).trans k.out⟩
theorem Pg.ui(k:Pg w b kd nm g s t)(d:ByteArray):Pg (w.setCell ⟨b,3,none⟩ (.string d)) b kd nm g d t:=
 ⟨by rw[heap_setCell_same w b 3 _ _ _ k.out];rfl⟩
theorem Pg.set0(k:Pg w b kd nm g s t)(d:Int):Pg (w.setCell ⟨b,0,none⟩ (.int .i64 d)) b d nm g s t:=
 ⟨by rw[heap_setCell_same w b 0 _ _ _ k.out];rfl⟩
theorem Pg.set1(k:Pg w b kd nm g s t)(d:Int):Pg (w.setCell ⟨b,1,none⟩ (.int .i64 d)) b kd d g s t:=
 ⟨by rw[heap_setCell_same w b 1 _ _ _ k.out];rfl⟩
theorem Pg.set2(k:Pg w b kd nm g s t)(d:Int):Pg (w.setCell ⟨b,2,none⟩ (.int .u64 d)) b kd nm d s t:=
 ⟨by rw[heap_setCell_same w b 2 _ _ _ k.out];rfl⟩
theorem Pg.ready(k:Pg w b kd nm g s t)(x y z:Int) :
  (w.cell? ⟨b,0,none⟩=some (.int .i64 kd)/\w.frozen? ⟨b,0,none⟩=false) /\
  ((w.setCell ⟨b,0,none⟩ (.int .i64 x)).cell? ⟨b,1,none⟩=some (.int .i64 nm)/\(w.setCell ⟨b,0,none⟩ (.int .i64 x)).frozen? ⟨b,1,none⟩=false) /\
  (((w.setCell ⟨b,0,none⟩ (.int .i64 x)).setCell ⟨b,1,none⟩ (.int .i64 y)).cell? ⟨b,2,none⟩=some (.int .u64 g)/\((w.setCell ⟨b,0,none⟩ (.int .i64 x)).setCell ⟨b,1,none⟩ (.int .i64 y)).frozen? ⟨b,2,none⟩=false) /\
  ((((w.setCell ⟨b,0,none⟩ (.int .i64 x)).setCell ⟨b,1,none⟩ (.int .i64 y)).setCell ⟨b,2,none⟩ (.int .u64 z)).cell? ⟨b,3,none⟩=some (.string s)/\(((w.setCell ⟨b,0,none⟩ (.int .i64 x)).setCell ⟨b,1,none⟩ (.int .i64 y)).setCell ⟨b,2,none⟩ (.int .u64 z)).frozen? ⟨b,3,none⟩=false):=
 have k1:=k.set0 x
 have k2:=k1.set1 y
 have k3:=k2.set2 z
 ⟨⟨k.cs.1,k.fz 0⟩,⟨k1.cs.2.1,k1.fz 1⟩,⟨k2.cs.2.2.1,k2.fz 2⟩,k3.cs.2.2.2,k3.fz 3⟩
theorem Pg.fill(k:Pg w b kd nm g s t)(x y z:Int)(d:ByteArray) :
  Pg ((((w.setCell ⟨b,0,none⟩ (.int .i64 x)).setCell ⟨b,1,none⟩ (.int .i64 y)).setCell ⟨b,2,none⟩ (.int .u64 z)).setCell ⟨b,3,none⟩ (.string d)) b x y z d t:=(((k.set0 x).set1 y).set2 z).ui d
theorem Rd.far{e:Int}(k:Rd w b s e)(a:Addr)(v:Value)(h:b≠a.block):Rd (w.setCell a v) b s e:=
 ⟨(heap_setCell_other w a b v h).trans k.out⟩
variable {W:World}
theorem Kept.row(h:Kept w W){g:Nat}(hg:w.heap.size<=g)(cs:Array Value):Kept w (W.setRow g cs):=by
 refine⟨⟨h.out.os,h.out.tape,h.out.output,?_,?_⟩⟩
 ·show w.heap.size<=(W.heap.modify g _).size
  rw[Array.size_modify];exact h.size
 ·intro k hk
  show (W.heap.modify g _)[k]? = _;rw[Array.getElem?_modify,aai (by omega)];exact h.out.block k hk
theorem Kept.set(h:Kept w W){a:Addr}(ha:w.heap.size<=a.block)(v:Value):Kept w (W.setCell a v):=⟨h.out.setCell ha v⟩
theorem WR(S S1 S2 S3 S4 S5 D P:ByteArray)(K N G C:Nat)(x1 x2 x3 x4 x5:Int)(hK:K<256)(hN:N<4294967296)(hC:C<65536)(f1:∀ W b,Rd W b S 0->Calls Tryz.prog 214 #[.pointer (some ⟨b,0,none⟩),.int .i64 1] W fun e w'=>e=.returned (.int .u64 K)/\Rd w' b S1 x1/\On b W w')(f2:∀ W b,Rd W b S1 x1->Calls Tryz.prog 214 #[.pointer (some ⟨b,0,none⟩),.int .i64 4] W fun e w'=>e=.returned (.int .u64 N)/\Rd w' b S2 x2/\On b W w')(f3:∀ W b,Rd W b S2 x2->Calls Tryz.prog 214 #[.pointer (some ⟨b,0,none⟩),.int .i64 8] W fun e w'=>e=.returned (.int .u64 G)/\Rd w' b S3 x3/\On b W w')(f4:∀ W b,Rd W b S3 x3->Calls Tryz.prog 214 #[.pointer (some ⟨b,0,none⟩),.int .i64 2] W fun e w'=>e=.returned (.int .u64 C)/\Rd w' b S4 x4/\On b W w')(f5:∀ W b,Rd W b S4 x4->Calls Tryz.prog 172 #[.pointer (some ⟨b,0,none⟩),.int .i64 C] W fun e w'=>e=.returned (.string D)/\Rd w' b S5 x5/\On b W w')(f7:∀ W,Calls Tryz.prog 90 #[.agg #[.int .i64 K,.int .i64 N,.int .u64 G,.string D]] W fun e w'=>e=.returned (.string P)/\Kept W w')(hx:(x5 != 0)=true)(w:World):
 Calls Tryz.prog 176 #[.string S] w fun e w'=>e=.returned (.tuple #[.agg #[.int .i64 0,.int .i64 0,.int .u64 0,.string ⟨#[]⟩],.int .i64 3])/\Kept w w':=by
 have F1:Hid _:=f1;have F2:Hid _:=f2;have F3:Hid _:=f3;have F4:Hid _:=f4;have F5:Hid _:=f5;have F7:Hid _:=f7;clear f1 f2 f3 f4 f5 f7;go_enter Tryz.func176,Tryz.ntmps176;go_wp2_with (first
  | (go_at_call 168;refine (dN S _).mono ?_;rintro e w1 ⟨rfl,r0,k0⟩;have r0:Rd w1 (w.heap.size+1) S 0:=(by simpa using r0);have Z1:=k0.pg (Pg.alloc w 0 0 0 ⟨#[]⟩ 157);have k0:Kept w w1:=((Kept.refl w).alloc _).trans k0)
  | (go_at_call 214;with_reducible refine (F1.out _ _ r0).mono ?_;rintro e v1 ⟨rfl,r1,o1⟩)
  | (go_at_call 214;with_reducible refine (F2.out _ _ r1).mono ?_;rintro e v2 ⟨rfl,r2,o2⟩)
  | (go_at_call 214;with_reducible refine (F3.out _ _ r2).mono ?_;rintro e v3 ⟨rfl,r3,o3⟩;have TP:=(o1.trans o2).trans o3;have Z3:=TP.pg Z1 (by omega);have b3:=r3.lt;have z3:=Z3.lt;have WS:=((Kept.refl v3).alloc (.cells #[.int .i64 K,.int .i64 N,.int .u64 G,.string ⟨#[]⟩] 157)).rd r3;have P3:=Pg.alloc v3 K N G ⟨#[]⟩ 157;have WT:=((Kept.refl v3).alloc (.cells #[.int .i64 K,.int .i64 N,.int .u64 G,.string ⟨#[]⟩] 157)).pg Z3)
  | (go_at_call 214;with_reducible refine (F4.out _ _ WS).mono ?_;rintro e v4 ⟨rfl,r4,o4⟩)
  | (go_at_call 172;with_reducible refine (F5.out _ _ r4).mono ?_;rintro e v5 ⟨rfl,r5,o5⟩;have MU:=o4.trans o5;have P5:=MU.pg P3 (by omega);have Z5:=MU.pg WT (by omega);have z5:=P5.lt;have P6:=P5.ui D;have Z6:Pg (v5.setCell ⟨v3.heap.size,3,none⟩ (.string D)) w.heap.size 0 0 0 ⟨#[]⟩ 157:=⟨(heap_setCell_other v5 ⟨v3.heap.size,3,none⟩ w.heap.size _ (by show w.heap.size≠v3.heap.size;omega)).trans Z5.out⟩;have r6:=r5.far ⟨v3.heap.size,3,none⟩ (.string D) (by show w.heap.size+1≠v3.heap.size;omega);have cf:=P5.fz 3;have c5:=P5.cs.2.2.2;obtain⟨d0,d1,d2,d3⟩:=P6.cs;obtain⟨⟨g0,h0⟩,⟨g1,h1⟩,⟨g2,h2⟩,g3,h3⟩:=Z6.ready 0 0 0)
  | (go_at_call 174;with_reducible refine (bE r6).mono ?_;rintro e v6 ⟨rfl,hv⟩;rw[hv];clear hv)
  | (go_at_call 90;with_reducible refine (F7.out _).mono ?_;rintro e v7 ⟨rfl,q7⟩;have Z7:=q7.pg Z6;have P7:=q7.pg P6;obtain⟨a0,a1,a2,a3⟩:=P7.cs;skip))
 refine bodyPost_ret (v:=.tuple #[.agg #[.int .i64 0,.int .i64 0,.int .u64 0,.string ⟨#[]⟩],.int .i64 3]) ?_ rfl ⟨rfl,?_⟩
 ·exact af (p:=2) (u:=3) (ty:=157) rfl _ _ w.heap.size 157 #[.int .i64 0,.int .i64 0,.int .u64 0,.string ⟨#[]⟩] (0,0) _ rfl (Z6.fill _ _ _ _).out Tryz.underlying157 rfl jS
 have hk:Kept w (v5.setCell ⟨v3.heap.size,3,none⟩ (.string D)):=by
  refine Kept.set ?_ (by show w.heap.size<=v3.heap.size;omega) _;exact MU.kept ((TP.kept k0 (by omega)).alloc _) (by omega)
 exact (((hk.set (aac _) _).set (aac _) _).set (aac _) _).set (aac _) _
theorem WU(S S1 S2 S3 S4 S5 D P:ByteArray)(K N G C:Nat)(x1 x2 x3 x4 x5:Int)(hK:K<256)(hN:N<4294967296)(hC:C<65536)(f1:∀ W b,Rd W b S 0->Calls Tryz.prog 214 #[.pointer (some ⟨b,0,none⟩),.int .i64 1] W fun e w'=>e=.returned (.int .u64 K)/\Rd w' b S1 x1/\On b W w')(f2:∀ W b,Rd W b S1 x1->Calls Tryz.prog 214 #[.pointer (some ⟨b,0,none⟩),.int .i64 4] W fun e w'=>e=.returned (.int .u64 N)/\Rd w' b S2 x2/\On b W w')(f3:∀ W b,Rd W b S2 x2->Calls Tryz.prog 214 #[.pointer (some ⟨b,0,none⟩),.int .i64 8] W fun e w'=>e=.returned (.int .u64 G)/\Rd w' b S3 x3/\On b W w')(f4:∀ W b,Rd W b S3 x3->Calls Tryz.prog 214 #[.pointer (some ⟨b,0,none⟩),.int .i64 2] W fun e w'=>e=.returned (.int .u64 C)/\Rd w' b S4 x4/\On b W w')(f5:∀ W b,Rd W b S4 x4->Calls Tryz.prog 172 #[.pointer (some ⟨b,0,none⟩),.int .i64 C] W fun e w'=>e=.returned (.string D)/\Rd w' b S5 x5/\On b W w')(f7:∀ W,Calls Tryz.prog 90 #[.agg #[.int .i64 K,.int .i64 N,.int .u64 G,.string D]] W fun e w'=>e=.returned (.string P)/\Kept W w')(hx:(x5 != 0)=false)(hs:(S.toList == P.toList)=false)(w:World):
 Calls Tryz.prog 176 #[.string S] w fun e w'=>e=.returned (.tuple #[.agg #[.int .i64 0,.int .i64 0,.int .u64 0,.string ⟨#[]⟩],.int .i64 3])/\Kept w w':=by
 have F1:Hid _:=f1;have F2:Hid _:=f2;have F3:Hid _:=f3;have F4:Hid _:=f4;have F5:Hid _:=f5;have F7:Hid _:=f7;clear f1 f2 f3 f4 f5 f7;go_enter Tryz.func176,Tryz.ntmps176;go_wp2_with (first
  | (go_at_call 168;refine (dN S _).mono ?_;rintro e w1 ⟨rfl,r0,k0⟩;have r0:Rd w1 (w.heap.size+1) S 0:=(by simpa using r0);have Z1:=k0.pg (Pg.alloc w 0 0 0 ⟨#[]⟩ 157);have k0:Kept w w1:=((Kept.refl w).alloc _).trans k0)
  | (go_at_call 214;with_reducible refine (F1.out _ _ r0).mono ?_;rintro e v1 ⟨rfl,r1,o1⟩)
  | (go_at_call 214;with_reducible refine (F2.out _ _ r1).mono ?_;rintro e v2 ⟨rfl,r2,o2⟩)
  | (go_at_call 214;with_reducible refine (F3.out _ _ r2).mono ?_;rintro e v3 ⟨rfl,r3,o3⟩;have TP:=(o1.trans o2).trans o3;have Z3:=TP.pg Z1 (by omega);have b3:=r3.lt;have z3:=Z3.lt;have WS:=((Kept.refl v3).alloc (.cells #[.int .i64 K,.int .i64 N,.int .u64 G,.string ⟨#[]⟩] 157)).rd r3;have P3:=Pg.alloc v3 K N G ⟨#[]⟩ 157;have WT:=((Kept.refl v3).alloc (.cells #[.int .i64 K,.int .i64 N,.int .u64 G,.string ⟨#[]⟩] 157)).pg Z3)
  | (go_at_call 214;with_reducible refine (F4.out _ _ WS).mono ?_;rintro e v4 ⟨rfl,r4,o4⟩)
  | (go_at_call 172;with_reducible refine (F5.out _ _ r4).mono ?_;rintro e v5 ⟨rfl,r5,o5⟩;have MU:=o4.trans o5;have P5:=MU.pg P3 (by omega);have Z5:=MU.pg WT (by omega);have z5:=P5.lt;have P6:=P5.ui D;have Z6:Pg (v5.setCell ⟨v3.heap.size,3,none⟩ (.string D)) w.heap.size 0 0 0 ⟨#[]⟩ 157:=⟨(heap_setCell_other v5 ⟨v3.heap.size,3,none⟩ w.heap.size _ (by show w.heap.size≠v3.heap.size;omega)).trans Z5.out⟩;have r6:=r5.far ⟨v3.heap.size,3,none⟩ (.string D) (by show w.heap.size+1≠v3.heap.size;omega);have cf:=P5.fz 3;have c5:=P5.cs.2.2.2;obtain⟨d0,d1,d2,d3⟩:=P6.cs)
  | (go_at_call 174;with_reducible refine (bE r6).mono ?_;rintro e v6 ⟨rfl,hv⟩;rw[hv];clear hv)
  | (go_at_call 90;with_reducible refine (F7.out _).mono ?_;rintro e v7 ⟨rfl,q7⟩;have Z7:=q7.pg Z6;have P7:=q7.pg P6;obtain⟨a0,a1,a2,a3⟩:=P7.cs;obtain⟨⟨g0,h0⟩,⟨g1,h1⟩,⟨g2,h2⟩,g3,h3⟩:=Z7.ready 0 0 0))
 refine bodyPost_ret (v:=.tuple #[.agg #[.int .i64 0,.int .i64 0,.int .u64 0,.string ⟨#[]⟩],.int .i64 3]) ?_ rfl ⟨rfl,?_⟩
 ·exact af (p:=2) (u:=3) (ty:=157) rfl _ _ w.heap.size 157 #[.int .i64 0,.int .i64 0,.int .u64 0,.string ⟨#[]⟩] (0,0) _ rfl (Z7.fill _ _ _ _).out Tryz.underlying157 rfl jS
 have hk:Kept w (v5.setCell ⟨v3.heap.size,3,none⟩ (.string D)):=by
  refine Kept.set ?_ (by show w.heap.size<=v3.heap.size;omega) _;exact MU.kept ((TP.kept k0 (by omega)).alloc _) (by omega)
 exact ((((hk.trans q7).set (aac _) _).set (aac _) _).set (aac _) _).set (aac _) _
theorem WV(S S1 S2 S3 S4 S5 D P:ByteArray)(K N G C:Nat)(x1 x2 x3 x4 x5:Int)(hK:K<256)(hN:N<4294967296)(hC:C<65536)(f1:∀ W b,Rd W b S 0->Calls Tryz.prog 214 #[.pointer (some ⟨b,0,none⟩),.int .i64 1] W fun e w'=>e=.returned (.int .u64 K)/\Rd w' b S1 x1/\On b W w')(f2:∀ W b,Rd W b S1 x1->Calls Tryz.prog 214 #[.pointer (some ⟨b,0,none⟩),.int .i64 4] W fun e w'=>e=.returned (.int .u64 N)/\Rd w' b S2 x2/\On b W w')(f3:∀ W b,Rd W b S2 x2->Calls Tryz.prog 214 #[.pointer (some ⟨b,0,none⟩),.int .i64 8] W fun e w'=>e=.returned (.int .u64 G)/\Rd w' b S3 x3/\On b W w')(f4:∀ W b,Rd W b S3 x3->Calls Tryz.prog 214 #[.pointer (some ⟨b,0,none⟩),.int .i64 2] W fun e w'=>e=.returned (.int .u64 C)/\Rd w' b S4 x4/\On b W w')(f5:∀ W b,Rd W b S4 x4->Calls Tryz.prog 172 #[.pointer (some ⟨b,0,none⟩),.int .i64 C] W fun e w'=>e=.returned (.string D)/\Rd w' b S5 x5/\On b W w')(f7:∀ W,Calls Tryz.prog 90 #[.agg #[.int .i64 K,.int .i64 N,.int .u64 G,.string D]] W fun e w'=>e=.returned (.string P)/\Kept W w')(hx:(x5 != 0)=false)(hs:(S.toList == P.toList)=true)(w:World):
 Calls Tryz.prog 176 #[.string S] w fun e w'=>e=.returned (.tuple #[.agg #[.int .i64 K,.int .i64 N,.int .u64 G,.string D],.int .i64 0])/\Kept w w':=by
 have F1:Hid _:=f1;have F2:Hid _:=f2;have F3:Hid _:=f3;have F4:Hid _:=f4;have F5:Hid _:=f5;have F7:Hid _:=f7;clear f1 f2 f3 f4 f5 f7;go_enter Tryz.func176,Tryz.ntmps176;go_wp2_with (first
  | (go_at_call 168;refine (dN S _).mono ?_;rintro e w1 ⟨rfl,r0,k0⟩;have r0:Rd w1 (w.heap.size+1) S 0:=(by simpa using r0);have Z1:=k0.pg (Pg.alloc w 0 0 0 ⟨#[]⟩ 157);have k0:Kept w w1:=((Kept.refl w).alloc _).trans k0)
  | (go_at_call 214;with_reducible refine (F1.out _ _ r0).mono ?_;rintro e v1 ⟨rfl,r1,o1⟩)
  | (go_at_call 214;with_reducible refine (F2.out _ _ r1).mono ?_;rintro e v2 ⟨rfl,r2,o2⟩)
  | (go_at_call 214;with_reducible refine (F3.out _ _ r2).mono ?_;rintro e v3 ⟨rfl,r3,o3⟩;have TP:=(o1.trans o2).trans o3;have Z3:=TP.pg Z1 (by omega);have b3:=r3.lt;have z3:=Z3.lt;have WS:=((Kept.refl v3).alloc (.cells #[.int .i64 K,.int .i64 N,.int .u64 G,.string ⟨#[]⟩] 157)).rd r3;have P3:=Pg.alloc v3 K N G ⟨#[]⟩ 157;have WT:=((Kept.refl v3).alloc (.cells #[.int .i64 K,.int .i64 N,.int .u64 G,.string ⟨#[]⟩] 157)).pg Z3)
  | (go_at_call 214;with_reducible refine (F4.out _ _ WS).mono ?_;rintro e v4 ⟨rfl,r4,o4⟩)
  | (go_at_call 172;with_reducible refine (F5.out _ _ r4).mono ?_;rintro e v5 ⟨rfl,r5,o5⟩;have MU:=o4.trans o5;have P5:=MU.pg P3 (by omega);have Z5:=MU.pg WT (by omega);have z5:=P5.lt;have P6:=P5.ui D;have Z6:Pg (v5.setCell ⟨v3.heap.size,3,none⟩ (.string D)) w.heap.size 0 0 0 ⟨#[]⟩ 157:=⟨(heap_setCell_other v5 ⟨v3.heap.size,3,none⟩ w.heap.size _ (by show w.heap.size≠v3.heap.size;omega)).trans Z5.out⟩;have r6:=r5.far ⟨v3.heap.size,3,none⟩ (.string D) (by show w.heap.size+1≠v3.heap.size;omega);have cf:=P5.fz 3;have c5:=P5.cs.2.2.2;obtain⟨d0,d1,d2,d3⟩:=P6.cs)
  | (go_at_call 174;with_reducible refine (bE r6).mono ?_;rintro e v6 ⟨rfl,hv⟩;rw[hv];clear hv)
  | (go_at_call 90;with_reducible refine (F7.out _).mono ?_;rintro e v7 ⟨rfl,q7⟩;have Z7:=q7.pg Z6;have P7:=q7.pg P6;obtain⟨a0,a1,a2,a3⟩:=P7.cs;obtain⟨⟨g0,h0⟩,⟨g1,h1⟩,⟨g2,h2⟩,g3,h3⟩:=Z7.ready K N G))
 refine bodyPost_ret (v:=.tuple #[.agg #[.int .i64 K,.int .i64 N,.int .u64 G,.string D],.int .i64 0]) ?_ rfl ⟨rfl,?_⟩
 ·exact af (p:=2) (u:=3) (ty:=157) rfl _ _ w.heap.size 157 #[.int .i64 K,.int .i64 N,.int .u64 G,.string D] (0,0) _ rfl (Z7.fill _ _ _ _).out Tryz.underlying157 rfl jS
 have hk:Kept w (v5.setCell ⟨v3.heap.size,3,none⟩ (.string D)):=by
  refine Kept.set ?_ (by show w.heap.size<=v3.heap.size;omega) _;exact MU.kept ((TP.kept k0 (by omega)).alloc _) (by omega)
 exact ((((hk.trans q7).set (aac _) _).set (aac _) _).set (aac _) _).set (aac _) _
theorem gF{m:List Nat}(h:Small m){k:Nat}(hk:m.length<=k):bM m<256 ^ k:=
 aas (G6 h) (Nat.pow_le_pow_right (by omega) hk)
theorem Bq(s:List Nat)(hs:Small s)(ho:Ql s)(w:World):
 Calls Tryz.prog 176 #[.string (bs s)] w fun e w'=>e=.returned (.tuple #[.agg #[.int .i64 (fK s:Nat),.int .i64 (fN s:Nat),.int .u64 (fG s:Nat),.string (bs (fD s))],.int .i64 0])/\Kept w w':=by
 rcases e1:dJ (rD 1) s 0 with⟨m1,l1,x1⟩
 rcases e2:dJ (rD 4) l1 x1 with⟨m2,l2,x2⟩
 rcases e3:dJ (rD 8) l2 x2 with⟨m3,l3,x3⟩
 rcases e4:dJ (rD 2) l3 x3 with⟨m4,l4,x4⟩
 rcases e5:dJ (bM m4) l4 x4 with⟨m5,l5,x5⟩
 obtain⟨s1,t1,n1,_,_⟩:=dh hs e1;obtain⟨s2,t2,n2,_,_⟩:=dh t1 e2;obtain⟨s3,t3,n3,_,_⟩:=dh t2 e3;obtain⟨s4,t4,n4,_,_⟩:=dh t3 e4;obtain⟨s5,t5,n5,_,_⟩:=dh t4 e5;have f1:=gB (.inl rfl) e1;have f2:=gB f1 e2;have f3:=gB f2 e3;have f4:=gB f3 e4;have hG:bM m3<18446744073709551616:=gF s3 n3;have hx:x5=0:=by
  apply Classical.byContradiction;intro hx;exact get_none e1 e2 e3 e4 e5 hx ho.1
 obtain⟨_,a1,a2,a3,a5⟩:=G7 e1 e2 e3 e4 e5 hx;have hq:=CO hs (rW (bM m1:Int) (bM m2:Int) (bM m3) s5);have hsd:s=jX (bM m1:Int) (bM m2:Int) (bM m3) m5:=by rw[a1,a2,a3,a5];exact ho.2
 rw[decide_eq_true hsd]at hq;have:=WV (bs s) (bs l1) (bs l2) (bs l3) (bs l4) (bs l5) (bs m5) _ (bM m1) (bM m2) (bM m3) (bM m4) x1 x2 x3 x4 x5 (gF s1 n1) (gF s2 n2) (gF s4 n4)
  (fun W b r=>dz 1 s hs 0 (.inl rfl) e1 r) (fun W b r=>dz 4 l1 t1 x1 f1 e2 r) (fun W b r=>dz 8 l2 t2 x2 f2 e3 r) (fun W b r=>dz 2 l3 t3 x3 f3 e4 r)
  (fun W b r=>tY _ l4 x4 f4 e5 r) (fun W=>fB _ _ _ hG m5 W) (by rw[hx];rfl) hq w
 rw[a1,a2,a3,a5]at this;exact this
theorem UZ(s:List Nat)(hs:Small s)(ho:¬ Ql s)(w:World):
 Calls Tryz.prog 176 #[.string (bs s)] w fun e w'=>e=.returned (.tuple #[.agg #[.int .i64 0,.int .i64 0,.int .u64 0,.string ⟨#[]⟩],.int .i64 3])/\Kept w w':=by
 rcases e1:dJ (rD 1) s 0 with⟨m1,l1,x1⟩
 rcases e2:dJ (rD 4) l1 x1 with⟨m2,l2,x2⟩
 rcases e3:dJ (rD 8) l2 x2 with⟨m3,l3,x3⟩
 rcases e4:dJ (rD 2) l3 x3 with⟨m4,l4,x4⟩
 rcases e5:dJ (bM m4) l4 x4 with⟨m5,l5,x5⟩
 obtain⟨s1,t1,n1,_,_⟩:=dh hs e1;obtain⟨s2,t2,n2,_,_⟩:=dh t1 e2;obtain⟨s3,t3,n3,_,_⟩:=dh t2 e3;obtain⟨s4,t4,n4,_,_⟩:=dh t3 e4;obtain⟨s5,t5,n5,_,_⟩:=dh t4 e5;have f1:=gB (.inl rfl) e1;have f2:=gB f1 e2;have f3:=gB f2 e3;have f4:=gB f3 e4;have hG:bM m3<18446744073709551616:=gF s3 n3;by_cases hx:x5=0
 ·obtain⟨Yx,a1,a2,a3,a5⟩:=G7 e1 e2 e3 e4 e5 hx
  have hq:=CO hs (rW (bM m1:Int) (bM m2:Int) (bM m3) s5);have hsd:¬ s=jX (bM m1:Int) (bM m2:Int) (bM m3) m5:=by rw[a1,a2,a3,a5];exact fun h=>ho ⟨Yx,h⟩
  rw[decide_eq_false hsd]at hq;exact WU (bs s) (bs l1) (bs l2) (bs l3) (bs l4) (bs l5) (bs m5) _ (bM m1) (bM m2) (bM m3) (bM m4) x1 x2 x3 x4 x5 (gF s1 n1) (gF s2 n2) (gF s4 n4)
   (fun W b r=>dz 1 s hs 0 (.inl rfl) e1 r) (fun W b r=>dz 4 l1 t1 x1 f1 e2 r) (fun W b r=>dz 8 l2 t2 x2 f2 e3 r) (fun W b r=>dz 2 l3 t3 x3 f3 e4 r)
   (fun W b r=>tY _ l4 x4 f4 e5 r) (fun W=>fB _ _ _ hG m5 W) (by rw[hx];rfl) hq w
 ·have hx':(x5 != 0)=true:=by simp[hx]
  exact WR (bs s) (bs l1) (bs l2) (bs l3) (bs l4) (bs l5) (bs m5) _ (bM m1) (bM m2) (bM m3) (bM m4) x1 x2 x3 x4 x5 (gF s1 n1) (gF s2 n2) (gF s4 n4)
   (fun W b r=>dz 1 s hs 0 (.inl rfl) e1 r) (fun W b r=>dz 4 l1 t1 x1 f1 e2 r) (fun W b r=>dz 8 l2 t2 x2 f2 e3 r) (fun W b r=>dz 2 l3 t3 x3 f3 e4 r)
   (fun W b r=>tY _ l4 x4 f4 e5 r) (fun W=>fB _ _ _ hG m5 W) hx' w
attribute [local go_sem ↓] Go.wp_at_zero Go.wp_at_succ
structure Sp (w:World) (b:Nat) (g r:Int):Prop where
 out:w.heap[b]? = some (.cells #[.int .u64 g,.int .i64 r] 88)
theorem Kept.sp(h:Kept w w'){b:Nat}{g r:Int}(k:Sp w b g r):Sp w' b g r:=⟨h.block k.out⟩
theorem Sp.alloc(w:World)(g r:Int):Sp (w.alloc (.cells #[.int .u64 g,.int .i64 r] 88)) w.heap.size g r:=
 ⟨by show (w.heap.push _)[w.heap.size]? = _;simp⟩
variable {r:Int}
theorem Sp.cs(k:Sp w b g r):w.cell? ⟨b,0,none⟩=some (.int .u64 g)/\w.cell? ⟨b,1,none⟩=some (.int .i64 r):=by
 refine⟨?_,?_⟩;all_goals rw[cell_of_row w b _ _ _ _ k.out]
 all_goals rfl
theorem Sp.fz(k:Sp w b g r)(j:Nat):w.frozen? ⟨b,j,none⟩=false:=frozen_of_row w b j _ _ k.out
theorem Sp.lt(k:Sp w b g r):b<w.heap.size:=(aaa.1 k.out).1
theorem Sp.set0(k:Sp w b g r)(d:Int):Sp (w.setCell ⟨b,0,none⟩ (.int .u64 d)) b d r:=
 ⟨by rw[heap_setCell_same w b 0 _ _ _ k.out];rfl⟩
theorem Sp.set1(k:Sp w b g r)(d:Int):Sp (w.setCell ⟨b,1,none⟩ (.int .i64 d)) b g d:=
 ⟨by rw[heap_setCell_same w b 1 _ _ _ k.out];rfl⟩
theorem Sp.ready(k:Sp w b g r)(x:Int) :
  (w.cell? ⟨b,0,none⟩=some (.int .u64 g)/\w.frozen? ⟨b,0,none⟩=false) /\
  (w.setCell ⟨b,0,none⟩ (.int .u64 x)).cell? ⟨b,1,none⟩=some (.int .i64 r)/\(w.setCell ⟨b,0,none⟩ (.int .u64 x)).frozen? ⟨b,1,none⟩=false:=
 have k1:=k.set0 x
 ⟨⟨k.cs.1,k.fz 0⟩,k1.cs.2,k1.fz 1⟩
theorem Sp.fill(k:Sp w b g r)(x y:Int) :
  Sp ((w.setCell ⟨b,0,none⟩ (.int .u64 x)).setCell ⟨b,1,none⟩ (.int .i64 y)) b x y:=(k.set0 x).set1 y
theorem On.sp(h:On c w w'){b:Nat}{g r:Int}(k:Sp w b g r)(hb:b≠c):Sp w' b g r:=
 ⟨(h.rest b k.lt hb).trans k.out⟩
theorem Sp.far(k:Sp w b g r)(a:Addr)(v:Value)(h:b≠a.block):Sp (w.setCell a v) b g r:=
 ⟨(heap_setCell_other w a b v h).trans k.out⟩
theorem nH:(Tryz.prog.info? 88).map (·.size)=some 2:=by kernel_rfl
theorem xU(g:Nat)(r:Int)(h:oV g r)(w:World):
 Calls Tryz.prog 55 #[.agg #[.int .u64 g,.int .i64 r]] w fun e w'=>e=.returned (.bool true)/\Kept w w':=by
 have HK:Hid (∀ o,Kept w (w.alloc o)):=fun o=>(Kept.refl w).alloc o
 obtain⟨h1,h2,h3,h4⟩:=h;have h1':(1:Int)<=(g:Int):=by omega
 have h2':(g:Int)<4611686018427387904:=by omega
 clear h1 h2;go_enter Tryz.func55,Tryz.ntmps55;go_wp2;go_ret;exact⟨rfl,HK.out _⟩
theorem QZ(g:Nat)(r:Int)(h:¬ oV g r)(w:World):
 Calls Tryz.prog 55 #[.agg #[.int .u64 g,.int .i64 r]] w fun e w'=>e=.returned (.bool false)/\Kept w w':=by
 have HK:Hid (∀ o,Kept w (w.alloc o)):=fun o=>(Kept.refl w).alloc o
 by_cases h1:(1:Int)<=(g:Int)
 ·by_cases h2:(g:Int)<4611686018427387904
  ·by_cases h3:-1<=r
   ·have h4:¬ r<16384:=fun h4=>h ⟨by omega,by omega,h3,h4⟩
    clear h;go_enter Tryz.func55,Tryz.ntmps55;go_wp2;go_ret;exact⟨rfl,HK.out _⟩
   ·clear h
    go_enter Tryz.func55,Tryz.ntmps55;go_wp2;go_ret;exact⟨rfl,HK.out _⟩
  ·clear h
   go_enter Tryz.func55,Tryz.ntmps55;go_wp2;go_ret;exact⟨rfl,HK.out _⟩
 ·clear h
  go_enter Tryz.func55,Tryz.ntmps55;go_wp2;go_ret;exact⟨rfl,HK.out _⟩
theorem oW(g:Nat)(w:World):Calls Tryz.prog 81 #[.int .u64 g] w fun e w'=>e=.returned (.int .i64 ((g % 2:Nat):Int))/\w'=w:=by
 go_enter Tryz.func81,Tryz.ntmps81;go_wp2;go_ret;exact⟨rfl,rfl⟩
theorem Fw(g:Nat)(w:World):Calls Tryz.prog 81 #[.int .u64 g] w fun e w'=>e=.returned (.int .i64 ((g % 2:Nat):Int))/\Kept w w':=
 (oW g w).mono (by rintro e w' ⟨rfl,rfl⟩;exact⟨rfl,Kept.refl _⟩)
theorem Q3(g:Nat)(r:Int)(h:¬ oV g r)(w:World):
 Calls Tryz.prog 82 #[.agg #[.int .u64 g,.int .i64 r]] w fun e w'=>e=.returned (.string ⟨#[]⟩)/\Kept w w':=by
 have h11:=QZ g r h;clear h;go_enter Tryz.func82,Tryz.ntmps82;go_wp2_with (go_at_call 55;refine (h11 _).mono ?_;rintro e w1 ⟨rfl,k1⟩);go_ret;exact⟨rfl,((Kept.refl w).alloc _).trans k1⟩
theorem MV(g:Nat)(r:Int)(h:oV g r)(w:World):
 Calls Tryz.prog 82 #[.agg #[.int .u64 g,.int .i64 r]] w fun e w'=>e=.returned (.string (bs (fZ g r)))/\Kept w w':=by
 have h11:=xU g r h;have h7:=Fw g;have Yx:=fB 1 ((g % 2:Nat):Int) g (by have:=h.2.1;omega) (ae (r+1).toNat);rw[CW h]at Yx;have h16:=qE (r+1).toNat (by have:=h.2.2.2;omega);have hr1:=h.2.2.1;have hr2:=h.2.2.2;have e1:(((r+1).toNat:Nat):Int)=r+1:=by omega
 rw[e1]at h16;have u1:IntKind.u64.wrap (r+1)=r+1:=by rw[IntKind.wrap_u64];omega
 have u2:IntKind.i64.wrap (r+1)=r+1:=by rw[IntKind.wrap_i64];omega
 generalize bs (ae (r+1).toNat)=D at *;generalize bs (fZ g r)=R at *;generalize ((g % 2:Nat):Int)=at_ at *;clear e1 h;go_enter Tryz.func82,Tryz.ntmps82;go_wp2_with (go_at_call 55;refine (h11 _).mono ?_;rintro e w1 ⟨rfl,k1⟩;have P0:=(k1.drew).sp (Sp.alloc w g r);obtain⟨c0,c1⟩:=P0.cs);go_region_held3 (fun W=>W.cell? ⟨w.heap.size,0,none⟩=some (.int .u64 g)/\W.cell? ⟨w.heap.size,1,none⟩=some (.int .i64 r)) (go_keep) (first
  | (go_at_call 81;with_reducible refine (h7 _).mono ?_;rintro e v1 ⟨rfl,q1⟩;have P1:=q1.sp P0;obtain⟨c10,c11⟩:=P1.cs)
  | (go_at_call 111;with_reducible refine (h16 _).mono ?_;rintro e v2 ⟨rfl,q2⟩;have P2:=q2.sp P1;obtain⟨c20,c21⟩:=P2.cs)
  | (go_at_call 90;with_reducible refine (Yx _).mono ?_;rintro e v3 ⟨rfl,q3⟩;have P3:=q3.sp P2;obtain⟨Wu,c31⟩:=P3.cs))
 all_goals go_wp2
 all_goals go_ret
 all_goals exact⟨rfl,(((((Kept.refl w).alloc _).trans k1).drew.trans q1).trans q2).trans q3⟩
attribute [local go_sem ↓] Go.wp_at_zero Go.wp_at_succ
def oZ (g:Nat) (r:Int):List Nat:=if 1<=g/\g<4611686018427387904/\-1<=r/\r<16384 then fZ g r else []
variable {g:Nat}
theorem qH(h:oV g r):oZ g r=fZ g r:=by unfold oZ;exact aao h
theorem Br(h:¬ oV g r):oZ g r=[]:=by unfold oZ;exact aai h
theorem Fx(g:Nat)(r:Int):Small (oZ g r):=by
 unfold oZ;split
 ·exact rX _ _
 ·intro x hx;cases hx
theorem zS(g:Nat)(r:Int)(w:World):
 Calls Tryz.prog 82 #[.agg #[.int .u64 g,.int .i64 r]] w fun e w'=>e=.returned (.string (bs (oZ g r)))/\Kept w w':=by
 by_cases h:oV g r
 ·rw[qH h];exact MV g r h w
 ·rw[Br h];exact Q3 g r h w
structure uj (s:List Nat) (a:Int) (e:Ending):Prop where
 yes:∀ g r,oV g r->s=fZ g r->a=((g % 2:Nat):Int)->e=.returned (.tuple #[.agg #[.int .u64 (g:Nat),.int .i64 r],.bool true])
 no:(∀ g r,oV g r->s=fZ g r->a≠((g % 2:Nat):Int))->e=.returned (.tuple #[.agg #[.int .u64 0,.int .i64 0],.bool false])
variable {s:List Nat}{a:Int}
theorem uj.none(h:∀ g r,oV g r->s=fZ g r->a≠((g % 2:Nat):Int)):uj s a (.returned (.tuple #[.agg #[.int .u64 0,.int .i64 0],.bool false])):=
 ⟨fun g r h1 h2 h3=>absurd h3 (h g r h1 h2),fun _=>rfl⟩
theorem uj.some(h1:oV g r)(h2:s=fZ g r)(h3:a=((g % 2:Nat):Int)):uj s a (.returned (.tuple #[.agg #[.int .u64 g,.int .i64 r],.bool true])):=by
 refine⟨fun k t h4 h5 _=>?_,fun h=>absurd h3 (h g r h1 h2)⟩;obtain⟨rfl,rfl⟩:=MJ h1 h4 (h2.symm.trans h5);rfl
theorem U0(S:ByteArray)(a:Int)(f17:∀ W,Calls Tryz.prog 176 #[.string S] W fun e w'=>e=.returned (.tuple #[.agg #[.int .i64 0,.int .i64 0,.int .u64 0,.string ⟨#[]⟩],.int .i64 3])/\Kept W w')(w:World):
 Calls Tryz.prog 139 #[.string S,.int .i64 a] w fun e w'=>e=.returned (.tuple #[.agg #[.int .u64 0,.int .i64 0],.bool false])/\Kept w w':=by
 go_enter Tryz.func139,Tryz.ntmps139;go_wp2_with (go_at_call 176;(with_reducible refine (f17 _).mono ?_);rintro e v1 ⟨rfl,q1⟩;have Z1:=((Kept.refl v1).alloc (.cells #[.int .i64 0,.int .i64 0,.int .u64 0,.string ⟨#[]⟩] 157)).sp (q1.sp (Sp.alloc w 0 0));obtain⟨⟨g0,h0⟩,g1,h1⟩:=Z1.ready 0);refine bodyPost_ret (v:=.tuple #[.agg #[.int .u64 0,.int .i64 0],.bool false]) ?_ rfl ⟨rfl,?_⟩
 ·exact af (p:=4) (u:=5) (ty:=88) rfl _ _ w.heap.size 88 _ (0,0) _ rfl (Z1.fill 0 0).out Tryz.underlying88 rfl nH
 ·exact ((((((Kept.refl w).alloc _).trans q1).alloc _).set (aac _) _).set (aac _) _)
structure Own (l:List Nat) (x:Nat):Prop where
 out:∀ m,m<=16384->l=ae m->x=m
theorem U1(l:List Nat)(S D:ByteArray)(a t:Int)(K N G:Nat)(hne:¬ a=t)(f17:∀ W,Calls Tryz.prog 176 #[.string S] W fun e w'=>e=.returned (.tuple #[.agg #[.int .i64 K,.int .i64 N,.int .u64 G,.string D],.int .i64 0])/\Kept W w')(f19:∀ W b,Rd W b D 0->Calls Tryz.prog 171 #[.pointer (some ⟨b,0,none⟩),.int .u64 16384] W fun e w'=>On b W w'/\∃ x:Nat,e=.returned (.int .u64 x)/\x<=16384/\Own l x)(f7:∀ W,Calls Tryz.prog 81 #[.int .u64 G] W fun e w'=>e=.returned (.int .i64 t)/\w'=W)(w:World):
 Calls Tryz.prog 139 #[.string S,.int .i64 a] w fun e w'=>e=.returned (.tuple #[.agg #[.int .u64 0,.int .i64 0],.bool false])/\Kept w w':=by
 have t1:(a == t)=false:=by simp;exact hne
 have t2:(a != t)=true:=by simp;exact hne
 have Zp:Hid _:=f19;clear f19 hne;go_enter Tryz.func139,Tryz.ntmps139;go_wp2_with (first
  | (go_at_call 176;(with_reducible refine (f17 _).mono ?_);rintro e v1 ⟨rfl,q1⟩;have Z1:=((Kept.refl v1).alloc (.cells #[.int .i64 K,.int .i64 N,.int .u64 G,.string D] 157)).sp (q1.sp (Sp.alloc w 0 0));have P1:=Pg.alloc v1 K N G D 157;have w1:w.heap.size<v1.heap.size:=(by have:=q1.size;simp at this;omega))
  | (go_at_call 168;refine (dN D _).mono ?_;rintro e v2 ⟨rfl,r2,q2⟩;have r2:Rd v2 (v1.heap.size+1) D 0:=(by simpa using r2);have P2:=q2.pg P1;have Z2:=q2.sp Z1)
  | (go_at_call 171;(with_reducible refine (Zp.out _ _ r2).mono ?_);rintro e v3 ⟨o3,x,rfl,hx,ow⟩;have P3:=o3.pg P2 (by omega);obtain⟨p30,p31,p32,p33⟩:=P3.cs;have kk:Kept w v3:=(o3.kept (((((Kept.refl w).alloc _).trans q1).alloc _).trans q2) (by omega));have Z3:=((Kept.refl v3).alloc (.cells #[.int .u64 G,.int .i64 ((x:Int)-1)] 88)).sp (o3.sp Z2 (by omega));obtain⟨⟨g0,h0⟩,g1,h1⟩:=Z3.ready 0)
  | (go_at_call 81;(with_reducible refine (f7 _).mono ?_);rintro e v4 ⟨rfl,hv⟩;rw[hv];clear hv))
 refine bodyPost_ret (v:=.tuple #[.agg #[.int .u64 0,.int .i64 0],.bool false]) ?_ rfl ⟨rfl,?_⟩
 ·exact af (p:=4) (u:=5) (ty:=88) rfl _ _ w.heap.size 88 _ (0,0) _ rfl (Z3.fill 0 0).out Tryz.underlying88 rfl nH
 ·exact ((kk.alloc _).set (aac _) _).set (aac _) _
theorem U2(s l:List Nat)(S D:ByteArray)(t:Int)(K N G:Nat)(P:Nat->ByteArray)(Q:Nat->Bool)(f17:∀ W,Calls Tryz.prog 176 #[.string S] W fun e w'=>e=.returned (.tuple #[.agg #[.int .i64 K,.int .i64 N,.int .u64 G,.string D],.int .i64 0])/\Kept W w')(f19:∀ W b,Rd W b D 0->Calls Tryz.prog 171 #[.pointer (some ⟨b,0,none⟩),.int .u64 16384] W fun e w'=>On b W w'/\∃ x:Nat,e=.returned (.int .u64 (x:Nat))/\x<=16384/\Own l x)(f7:∀ W,Calls Tryz.prog 81 #[.int .u64 G] W fun e w'=>e=.returned (.int .i64 t)/\w'=W)(f6:∀ (x:Nat) W,Calls Tryz.prog 82 #[.agg #[.int .u64 G,.int .i64 ((x:Int)-1)]] W fun e w'=>e=.returned (.string (P x))/\Kept W w')(hc:∀ x,(S.toList == (P x).toList)=Q x)(hy:∀ x,x<=16384->Own l x->Q x=true->uj s t (.returned (.tuple #[.agg #[.int .u64 G,.int .i64 ((x:Int)-1)],.bool true])))(hn:∀ x,x<=16384->Own l x->Q x=false->uj s t (.returned (.tuple #[.agg #[.int .u64 0,.int .i64 0],.bool false])))(w:World):
 Calls Tryz.prog 139 #[.string S,.int .i64 t] w fun e w'=>uj s t e/\Kept w w':=by
 have Zp:Hid _:=f19;have F6:Hid _:=f6;have HC:Hid _:=hc;have HY:Hid _:=hy;have HN:Hid _:=hn;clear f19 f6 hc hy hn;go_enter Tryz.func139,Tryz.ntmps139;go_wp2_with (first
  | (go_at_call 176;(with_reducible refine (f17 _).mono ?_);rintro e v1 ⟨rfl,q1⟩;have Z1:=((Kept.refl v1).alloc (.cells #[.int .i64 K,.int .i64 N,.int .u64 G,.string D] 157)).sp (q1.sp (Sp.alloc w 0 0));have P1:=Pg.alloc v1 K N G D 157;have w1:w.heap.size<v1.heap.size:=(by have:=q1.size;simp at this;omega))
  | (go_at_call 168;refine (dN D _).mono ?_;rintro e v2 ⟨rfl,r2,q2⟩;have r2:Rd v2 (v1.heap.size+1) D 0:=(by simpa using r2);have P2:=q2.pg P1;have Z2:=q2.sp Z1)
  | (go_at_call 171;(with_reducible refine (Zp.out _ _ r2).mono ?_);rintro e v3 ⟨o3,x,rfl,hx,ow⟩;have P3:=o3.pg P2 (by omega);obtain⟨p30,p31,p32,p33⟩:=P3.cs;have kk:Kept w v3:=(o3.kept (((((Kept.refl w).alloc _).trans q1).alloc _).trans q2) (by omega));have Z3:=((Kept.refl v3).alloc (.cells #[.int .u64 G,.int .i64 ((x:Int)-1)] 88)).sp (o3.sp Z2 (by omega));have Y3:=Sp.alloc v3 G ((x:Int)-1);have hcx:=HC.out x;have F6x:=F6.out x;have HYx:Hid (Q x=true->uj s t (.returned (.tuple #[.agg #[.int .u64 G,.int .i64 ((x:Int)-1)],.bool true]))):=HY.out x hx ow;have U3:Hid (Q x=false->uj s t (.returned (.tuple #[.agg #[.int .u64 0,.int .i64 0],.bool false]))):=HN.out x hx ow;clear F6 HC HY HN ow;generalize P x=PX at *;generalize Q x=QX at *)
  | (go_at_call 81;(with_reducible refine (f7 _).mono ?_);rintro e v4 ⟨rfl,hv⟩;rw[hv];clear hv)
  | (go_at_call 82;(with_reducible refine (F6x _).mono ?_);rintro e v5 ⟨rfl,q5⟩;have Z5:=q5.sp Z3;have Y5:=q5.sp Y3;obtain⟨y50,y51⟩:=Y5.cs;obtain⟨⟨g0,h0⟩,g1,h1⟩:=Z5.ready 0;obtain⟨_,g1',h1'⟩:=Z5.ready (G:Nat);cases QX))
 ·refine bodyPost_ret (v:=.tuple #[.agg #[.int .u64 0,.int .i64 0],.bool false]) ?_ rfl ⟨U3.out trivial,?_⟩
  ·exact af (p:=4) (u:=5) (ty:=88) rfl _ _ w.heap.size 88 _ (0,0) _ rfl (Z5.fill 0 0).out Tryz.underlying88 rfl nH
  ·exact (((kk.alloc _).trans q5).set (aac _) _).set (aac _) _
 ·refine bodyPost_ret (v:=.tuple #[.agg #[.int .u64 G,.int .i64 ((x:Int)-1)],.bool true]) ?_ rfl ⟨HYx.out trivial,?_⟩
  ·exact af (p:=4) (u:=5) (ty:=88) rfl _ _ w.heap.size 88 _ (0,0) _ rfl (Z5.fill G ((x:Int)-1)).out Tryz.underlying88 rfl nH
  ·exact (((kk.alloc _).trans q5).set (aac _) _).set (aac _) _
theorem MW(ho:Ql s):(fD s).length<=237:=by
 obtain⟨_,h,_⟩:=(QR s).1 ho;unfold fD;rw[aam];omega
theorem zT(s:List Nat)(hs:Small s)(a:Int)(w:World):
 Calls Tryz.prog 139 #[.string (bs s),.int .i64 a] w fun e w'=>uj s a e/\Kept w w':=by
 by_cases ho:Ql s
 ·have hl:Small (fD s):=(hs.drop 15).take _
  have ht:(fD s).length<=100000:=by have:=MW ho;omega
  have f19:∀ W b,Rd W b (bs (fD s)) 0->Calls Tryz.prog 171 #[.pointer (some ⟨b,0,none⟩),.int .u64 16384] W fun e w'=>On b W w'/\∃ x:Nat,e=.returned (.int .u64 (x:Nat))/\x<=16384/\Own (fD s) x:=
   fun W b r=>(MO (fD s) hl ht r).mono (by rintro e w' ⟨o,x,rfl,hx,hm⟩;exact⟨o,x,rfl,hx,⟨hm⟩⟩)
  by_cases ha:a=((fG s % 2:Nat):Int)
  ·subst ha
   refine U2 s (fD s) (bs s) (bs (fD s)) _ (fK s) (fN s) (fG s) (fun x=>bs (oZ (fG s) ((x:Int)-1))) (fun x=>decide (s=oZ (fG s) ((x:Int)-1))) (Bq s hs ho) f19 (oW (fG s)) (fun x W=>zS _ _ W) (fun x=>CO hs (Fx _ _)) ?_ ?_ w
   ·intro x hx ow hq
    have hq:=of_decide_eq_true hq;by_cases hS:oV (fG s) ((x:Int)-1)
    ·rw[qH hS]at hq
     exact uj.some hS hq rfl
    ·rw[Br hS]at hq
     rw[hq]at ho;exact absurd ho JM
   ·intro x hx ow hq
    have hq:=of_decide_eq_false hq;refine uj.none fun g r h1 h2=>absurd ?_ hq
    obtain⟨_,_,hG,hD⟩:=nQ h1;rw[<- h2]at hG hD;have h3:=h1.2.2.1;have h4:=h1.2.2.2;have:=ow.out (r+1).toNat (by omega) hD;rw[hG,show (x:Int)-1=r by omega,qH h1];exact h2
  ·refine (U1 (fD s) (bs s) (bs (fD s)) a _ (fK s) (fN s) (fG s) ha (Bq s hs ho) f19 (oW (fG s)) w).mono ?_
   rintro e w' ⟨rfl,hk⟩;refine⟨uj.none fun g r h1 h2=>?_,hk⟩;obtain⟨_,_,hG,_⟩:=nQ h1;rw[<- h2]at hG;rw[<- hG];exact ha
 ·refine (U0 (bs s) a (UZ s hs ho) w).mono ?_
  rintro e w' ⟨rfl,hk⟩;refine⟨uj.none fun g r h1 h2=>?_,hk⟩;rw[h2]at ho;exact absurd (nQ h1).1 ho
theorem MX(h:oV g r){a:Int}(ha:a=((g % 2:Nat):Int))(w:World):
 Calls Tryz.prog 139 #[.string (bs (fZ g r)),.int .i64 a] w fun e w'=>e=.returned (.tuple #[.agg #[.int .u64 g,.int .i64 r],.bool true])/\Kept w w':=
 (zT _ (rX g r) a w).mono (fun _ _ ⟨h1,hk⟩=>⟨h1.yes g r h rfl ha,hk⟩)
attribute [local go_sem ↓] Go.wp_at_zero Go.wp_at_succ
theorem Fy(A B:ByteArray)(g1 g2:Nat)(r1 r2:Int)(b1:Bool)(hg:g1<g2)(f1:∀ W,Calls Tryz.prog 139 #[.string A,.int .i64 0] W fun e w'=>e=.returned (.tuple #[.agg #[.int .u64 g1,.int .i64 r1],.bool b1])/\Kept W w')(f2:∀ W,Calls Tryz.prog 139 #[.string B,.int .i64 1] W fun e w'=>e=.returned (.tuple #[.agg #[.int .u64 g2,.int .i64 r2],.bool true])/\Kept W w')(w:World):
 Calls Tryz.prog 101 #[.string A,.string B] w fun e w'=>e=.returned (.tuple #[.agg #[.int .u64 g2,.int .i64 r2],.bool true])/\Kept w w':=by
 have hg':(g1:Int)<(g2:Int):=by omega
 go_enter Tryz.func101,Tryz.ntmps101;go_wp2_with (first
  | (go_at_call 139;(with_reducible refine (f1 _).mono ?_);rintro e v1 ⟨rfl,q1⟩;have Z1:=((Kept.refl v1).alloc (.cells #[.int .u64 g1,.int .i64 r1] 88)).sp (q1.sp (Sp.alloc w 0 0));have Y1:=Sp.alloc v1 g1 r1)
  | (go_at_call 139;(with_reducible refine (f2 _).mono ?_);rintro e v2 ⟨rfl,q2⟩;have k2:Kept v2 (v2.alloc (.cells #[.int .u64 g2,.int .i64 r2] 88)):=(Kept.refl v2).alloc _;have Z2:=k2.sp (q2.sp Z1);have Y2:=k2.sp (q2.sp Y1);obtain⟨y0,y1⟩:=Y2.cs;obtain⟨⟨z0,h0⟩,z1,h1⟩:=Z2.ready (g2:Nat)))
 refine bodyPost_ret (v:=.tuple #[.agg #[.int .u64 g2,.int .i64 r2],.bool true]) ?_ rfl ⟨rfl,?_⟩
 ·exact af (p:=4) (u:=5) (ty:=88) rfl _ _ w.heap.size 88 _ (0,0) _ rfl (Z2.fill g2 r2).out Tryz.underlying88 rfl nH
 ·exact ((((((((Kept.refl w).alloc _).trans q1).alloc _).trans q2).alloc _).set (aac _) _).set (aac _) _)
theorem CY(A B:ByteArray)(g1 g2:Nat)(r1 r2:Int)(b1:Bool)(f1:∀ W,Calls Tryz.prog 139 #[.string A,.int .i64 0] W fun e w'=>e=.returned (.tuple #[.agg #[.int .u64 g1,.int .i64 r1],.bool b1])/\Kept W w')(f2:∀ W,Calls Tryz.prog 139 #[.string B,.int .i64 1] W fun e w'=>e=.returned (.tuple #[.agg #[.int .u64 g2,.int .i64 r2],.bool false])/\Kept W w')(w:World):
 Calls Tryz.prog 101 #[.string A,.string B] w fun e w'=>e=.returned (.tuple #[.agg #[.int .u64 g1,.int .i64 r1],.bool b1])/\Kept w w':=by
 go_enter Tryz.func101,Tryz.ntmps101;go_wp2_with (first
  | (go_at_call 139;(with_reducible refine (f1 _).mono ?_);rintro e v1 ⟨rfl,q1⟩;have Z1:=((Kept.refl v1).alloc (.cells #[.int .u64 g1,.int .i64 r1] 88)).sp (q1.sp (Sp.alloc w 0 0));have Y1:=Sp.alloc v1 g1 r1)
  | (go_at_call 139;(with_reducible refine (f2 _).mono ?_);rintro e v2 ⟨rfl,q2⟩;have k2:Kept v2 (v2.alloc (.cells #[.int .u64 g2,.int .i64 r2] 88)):=(Kept.refl v2).alloc _;have Z2:=k2.sp (q2.sp Z1);have Y2:=k2.sp (q2.sp Y1);obtain⟨y0,y1⟩:=Y2.cs;obtain⟨⟨z0,h0⟩,z1,h1⟩:=Z2.ready (g1:Nat)))
 refine bodyPost_ret (v:=.tuple #[.agg #[.int .u64 g1,.int .i64 r1],.bool b1]) ?_ rfl ⟨rfl,?_⟩
 ·exact af (p:=4) (u:=5) (ty:=88) rfl _ _ w.heap.size 88 _ (0,0) _ rfl (Z2.fill g1 r1).out Tryz.underlying88 rfl nH
 ·exact ((((((((Kept.refl w).alloc _).trans q1).alloc _).trans q2).alloc _).set (aac _) _).set (aac _) _)
theorem CZ(A B:ByteArray)(g1 g2:Nat)(r1 r2:Int)(b1:Bool)(hg:¬ g1<g2)(f1:∀ W,Calls Tryz.prog 139 #[.string A,.int .i64 0] W fun e w'=>e=.returned (.tuple #[.agg #[.int .u64 g1,.int .i64 r1],.bool b1])/\Kept W w')(f2:∀ W,Calls Tryz.prog 139 #[.string B,.int .i64 1] W fun e w'=>e=.returned (.tuple #[.agg #[.int .u64 g2,.int .i64 r2],.bool true])/\Kept W w')(w:World):
 Calls Tryz.prog 101 #[.string A,.string B] w fun e w'=>e=.returned (.tuple #[.agg #[.int .u64 g1,.int .i64 r1],.bool b1])/\Kept w w':=by
 have hg':¬ (g1:Int)<(g2:Int):=by omega
 go_enter Tryz.func101,Tryz.ntmps101;go_wp2_with (first
  | (go_at_call 139;(with_reducible refine (f1 _).mono ?_);rintro e v1 ⟨rfl,q1⟩;have Z1:=((Kept.refl v1).alloc (.cells #[.int .u64 g1,.int .i64 r1] 88)).sp (q1.sp (Sp.alloc w 0 0));have Y1:=Sp.alloc v1 g1 r1)
  | (go_at_call 139;(with_reducible refine (f2 _).mono ?_);rintro e v2 ⟨rfl,q2⟩;have k2:Kept v2 (v2.alloc (.cells #[.int .u64 g2,.int .i64 r2] 88)):=(Kept.refl v2).alloc _;have Z2:=k2.sp (q2.sp Z1);have Y2:=k2.sp (q2.sp Y1);obtain⟨y0,y1⟩:=Y2.cs;obtain⟨⟨z0,h0⟩,z1,h1⟩:=Z2.ready (g1:Nat)))
 refine bodyPost_ret (v:=.tuple #[.agg #[.int .u64 g1,.int .i64 r1],.bool b1]) ?_ rfl ⟨rfl,?_⟩
 ·exact af (p:=4) (u:=5) (ty:=88) rfl _ _ w.heap.size 88 _ (0,0) _ rfl (Z2.fill g1 r1).out Tryz.underlying88 rfl nH
 ·exact ((((((((Kept.refl w).alloc _).trans q1).alloc _).trans q2).alloc _).set (aac _) _).set (aac _) _)
