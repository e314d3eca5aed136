/- Joined. -/
import Derived.Test.YtifeihnhkbagpaaGreatDoorZak
import Derived.WalkSpells
import Derived.BigQuiet
import Derived.Deep.RegionWith
import Derived.Deep.LoopGhost
import Derived.Below
import Derived.Laws.IdiomStrings
set_option maxRecDepth 100000
set_option maxHeartbeats 1000000
namespace Go.Proofs.YtifeihnhkbagpaaGreatDoor.P
open ChangeShapes WideShapes ChangeAt RowKit
structure Kept (w w':World):Prop where
 out:Below w.heap.size w w'
theorem Kept.refl(w:World):Kept w w:=⟨Below.refl _ _⟩
variable {a b c:World}
theorem Kept.trans(h:Kept a b)(k:Kept b c):Kept a c:=⟨h.out.trans (k.out.mono h.out.size)⟩
theorem Kept.drew(h:Kept a b):Kept a b.drew:=⟨h.out.drew⟩
theorem Kept.alloc(h:Kept a b)(o:Obj):Kept a (b.alloc o):=⟨h.out.alloc h.out.size o⟩
variable {w w':World}
theorem Kept.block(h:Kept w w'){k:Nat}{o:Obj}(hk:w.heap[k]? = some o):w'.heap[k]? = some o:=
 (h.out.block k (aaa.1 hk).1).trans hk
theorem Kept.size(h:Kept w w'):w.heap.size<=w'.heap.size:=h.out.size
theorem info5:(Tryz.prog.info? 5).map (fun i=>(i.zero,i.size,i.bytes))=some (some (.int .u8 0),1,1):=by kernel_rfl
variable {w1:World}{v:Value}{n e:Nat}{xs:List Value}
theorem lK{wx:World}(hk:Kept w wx)(hown:wx.ownsRow w.heap.size e 1 v n xs){W:World}(hW:Kept wx W)(hg:W.grownBy w1 v.ownBlock):Kept w w1:=
 ⟨((hk.trans hW).out).grown hg (hk.trans hW).size (fun k h=>(hown.lt k h).1)⟩
variable {base:Nat}
theorem aF{size:Nat}(h:w.ownsRow base e size v n xs):∃ p cap,v=.slice p n cap:=by
 rcases h.2 with⟨rfl,rfl⟩|⟨g,cap,cur,rfl,_⟩
 ·exact⟨_,_,rfl⟩
 ·exact⟨_,_,rfl⟩
def cellsOf (l:List Nat):List Value:=l.map fun x:Nat=>Value.int .u8 (Int.ofNat x)
theorem strOf(l:List Nat):strOfNums (l.map fun x:Nat=>(x:Int))=bs l:=by
 unfold strOfNums bs;simp[List.map_map,Function.comp_def]
theorem tT{l:List Nat}(h:w.ownsRow base 5 1 v l.length (cellsOf l)) :
  (convert 56 9 v).run Tryz.prog w=.ok (.string (bs l)) w:=by
 rcases h.2 with⟨rfl,hn⟩|⟨g,cap,cur,rfl,_⟩
 ·have:l=[]:=by simpa[cellsOf] using hn
  subst this;rw[run_convert_bytes_nil w 56 5 Tryz.underlying56 Tryz.underlying5 _ _ 9 Tryz.underlying9];rfl
 ·rw[run_convert_bytes_arg w 56 5 Tryz.underlying56 Tryz.underlying5 g 0 l.length cap (l.map fun x:Nat=>(x:Int)) (by simp) (fun i hi=>?_) 9 Tryz.underlying9,strOf]
  have:=h.cellAt i (by omega);rw[aaj,this];simp[cellsOf,List.getD,hi]
theorem one_cell(w:World)(x:Value)(t:TypeId):∀ (j:Nat) (u:Value),[x][j]? = some u->(w.alloc (.cells #[x] t)).cell? ((⟨w.heap.size,0,none⟩:Addr).add j)=some u:=by
 intro j u hj;match j,hj with
 | 0,hj=>
  simp at hj;subst hj;simp only[Addr.add,if_true];rw[World.cell?_alloc_at _ _ _ _ (by simp)];rfl
theorem one_one(k:IntKind)(x:Int):∀ u∈[Value.int k x],u.oneCell'=true:=by
 intro u hu;simp at hu;subst hu;rfl
def rD (q:Int):Nat:=(min (max q 0) 8).toNat
theorem Fs(q:Int):rD q<=8:=by unfold rD;omega
theorem vV(q:Int)(w:World):Calls Tryz.prog 155 #[.int .i64 q] w fun e w'=>e=.returned (.int .i64 (rD q:Nat))/\w'=w:=by
 have h1:q<0->((rD q:Nat):Int)=0:=by unfold rD;omega
 have h2:8<q->((rD q:Nat):Int)=8:=by unfold rD;omega
 have h3:0<=q->q<=8->((rD q:Nat):Int)=q:=by unfold rD;omega
 have H:Hid ((q<0->((rD q:Nat):Int)=0)/\(8<q->((rD q:Nat):Int)=8)/\(0<=q->q<=8->((rD q:Nat):Int)=q)):=⟨h1,h2,h3⟩;clear h1 h2 h3;generalize ((rD q:Nat):Int)=k at H;go_enter Tryz.func155,Tryz.ntmps155;go_wp2;all_goals go_ret
 all_goals refine⟨?_,rfl⟩
 all_goals obtain⟨h1,h2,h3⟩:=H.out
 all_goals first | rw[h1 (by omega)] | rw[h2 (by omega)] | rw[h3 (by omega) (by omega)]
 all_goals rfl
theorem lV(n:Nat)(hn:n<18446744073709551616)(q:Int)(w:World):
 Calls Tryz.prog 123 #[.int .u64 n,.int .i64 q] w fun e w'=>e=.returned (.string (bs (bD n (rD q))))/\Kept w w':=by
 obtain⟨i0,hi,hz0,hz1,hz2⟩:=info_parts info5;have Zb:=vV q;have Zc:=Fs q;generalize rD q=k at *;go_enter Tryz.func123,Tryz.ntmps123;go_wp2_with (go_at_call 155;refine (Zb _).mono ?_;rintro e w ⟨rfl,rfl⟩);go_loopg [0,5,8] k (fun g nv v iv wx=>∃ (done:List Nat) (m:Nat),bD n k=done++bD m g/\done.length+g=k/\m<18446744073709551616/\nv=.int .u64 m/\iv=.int .i64 done.length/\wx.ownsRow w.heap.size 5 1 v done.length (cellsOf done)/\Kept w wx);case atStart=>exact⟨[],n,rfl,by simp,hn,rfl,rfl,World.ownsRow_nil _ _ _ _,Kept.refl _⟩
 case round=>
  obtain⟨done,m,hl,hg,hm,rfl,rfl,hown,hk⟩:=hrel;have HL:Hid (bD n k=done++bD m gk):=hl;clear hl;cases gk with
  | zero=>
   have tx:=tT hown;have hdk:done.length=k:=by omega
   clear hown hg;go_wp2;go_ret;refine⟨?_,hk⟩;rw[HL.out];simp[bD]
  | succ g=>
   obtain⟨p,cap,rfl⟩:=aF hown;have HO:Hid (wr.ownsRow w.heap.size 5 1 (.slice p done.length cap) done.length (cellsOf done)):=hown;have hdk:done.length<k:=by omega
   have HG:Hid (done.length+(g+1)=k):=hg;have hd8:done.length<=8:=by omega
   clear hown hg;go_wp2_with (at_builtin;refine wpList_append_own _ rfl _ _ 56 rfl w.heap.size 5 i0 (.int .u8 0) 1 1 Tryz.underlying56 hi hz0 hz1 hz2 rfl (by decide) (.slice p done.length cap) done.length (cellsOf done) rfl ?c0 _ 1 1 [.int .u8 ((m:Int) % 256)] rfl rfl ?c1 ?c2 ?c3 ?c4 ?c5 ?_);case c0=>exact HO.out.alloc _
   case c1=>exact one_cell _ _ _
   case c2=>exact one_one _ _
   case c3=>unfold maxLen;omega
   case c4=>omega
   case c5=>have:=hk.size;simp;omega
   intro v' w1 hown1 hgrow _;have hk1:Kept w w1:=lK hk HO.out ((Kept.refl wr).alloc _) hgrow;clear hgrow hi hz0 hz1 hz2;have H2:Hid (w1.ownsRow w.heap.size 5 1 v' (done.length+1) (cellsOf done++[.int .u8 ((m:Int) % 256)])):=hown1;clear hown1;go_wp2;go_roundg g;case measure=>omega
   case rel=>
    refine⟨done++[m % 256],m / 256,?_,?_,by omega,by go_num,?_,?_,hk1⟩
    ·rw[HL.out,bD];simp
    ·have:=HG.out;simp;omega
    ·simp
    ·have:=H2.out
     simpa[cellsOf] using this
structure Rd (w:World) (b:Nat) (s:ByteArray) (e:Int):Prop where
 out:w.heap[b]? = some (.cells #[.string s,.int .i64 e] 283)
structure On (b:Nat) (w w':World):Prop where
 low:Below 0 w w'
 rest:∀ i,i<w.heap.size->i≠b->w'.heap[i]? = w.heap[i]?
theorem On.refl(b:Nat)(w:World):On b w w:=⟨Below.refl _ _,fun _ _ _=>rfl⟩
variable {B:Nat}
theorem On.size(h:On B w w'):w.heap.size<=w'.heap.size:=h.low.size
theorem On.trans(h:On B a b)(k:On B b c):On B a c:=
 ⟨h.low.trans k.low,fun i hi hb=>(k.rest i (aas hi h.size) hb).trans (h.rest i hi hb)⟩
theorem Kept.on(h:Kept w w')(b:Nat):On b w w':=⟨h.out.mono (aag _),fun i hi _=>h.out.block i hi⟩
variable {b:Nat}
theorem On.set(h:On b w w')(i:Nat)(v:Value):On b w (w'.setCell ⟨b,i,none⟩ v):=
 ⟨h.low.setCell (aag _) _,fun k hk hb=>(Below.heap_setCell w' ⟨b,i,none⟩ v k hb).trans (h.rest k hk hb)⟩
theorem On.kept{w2:World}(h:On b w1 w2)(k:Kept w w1)(hb:w.heap.size<=b):Kept w w2:=
 ⟨⟨h.low.os.trans k.out.os,h.low.tape.trans k.out.tape,h.low.output.trans k.out.output,aad k.size h.size,
  fun i hi=>(h.rest i (aas hi k.size) (by omega)).trans (k.out.block i hi)⟩⟩
theorem Kept.rd(h:Kept w w'){b:Nat}{s:ByteArray}{e:Int}(k:Rd w b s e):Rd w' b s e:=⟨h.block k.out⟩
variable {s:ByteArray}{e:Int}
theorem Rd.lt(k:Rd w b s e):b<w.heap.size:=(aaa.1 k.out).1
theorem Rd.c0(k:Rd w b s e):w.cell? ⟨b,0,none⟩=some (.string s):=by rw[cell_of_row w b 0 _ _ _ k.out];rfl
theorem Rd.c1(k:Rd w b s e):w.cell? ⟨b,1,none⟩=some (.int .i64 e):=by rw[cell_of_row w b 1 _ _ _ k.out];rfl
theorem Rd.f0(k:Rd w b s e)(j:Nat):w.frozen? ⟨b,j,none⟩=false:=frozen_of_row w b j _ _ k.out
theorem Rd.set0(k:Rd w b s e)(t:ByteArray):Rd (w.setCell ⟨b,0,none⟩ (.string t)) b t e:=
 ⟨by rw[heap_setCell_same w b 0 _ _ _ k.out];rfl⟩
theorem Rd.set1(k:Rd w b s e)(x:Int):Rd (w.setCell ⟨b,1,none⟩ (.int .i64 x)) b s x:=
 ⟨by rw[heap_setCell_same w b 1 _ _ _ k.out];rfl⟩
theorem dN(s:ByteArray)(w:World):
 Calls Tryz.prog 168 #[.string s] w fun e w'=>e=.returned (.pointer (some ⟨w.heap.size,0,none⟩))/\Rd w' w.heap.size s 0/\Kept w w':=by
 go_enter Tryz.func168,Tryz.ntmps168;go_wp2;go_ret;exact⟨rfl,⟨by show (w.heap.push _)[w.heap.size]? = _;simp⟩,(Kept.refl w).alloc _⟩
theorem tV(w:World):Calls Tryz.prog 174 #[.pointer none] w fun e w'=>e=.returned (.int .i64 2)/\w'=w:=by
 go_enter Tryz.func174,Tryz.ntmps174;go_wp2;go_ret;exact⟨rfl,rfl⟩
theorem bE{x:Int}(k:Rd w b s x):Calls Tryz.prog 174 #[.pointer (some ⟨b,0,none⟩)] w fun e w'=>e=.returned (.int .i64 x)/\w'=w:=by
 have c1:=k.c1;go_enter Tryz.func174,Tryz.ntmps174;go_wp2;go_ret;exact⟨rfl,rfl⟩
theorem CX(x:Int)(hx:(x == 0)=false)(w:World):Calls Tryz.prog 212 #[.pointer none,.int .i64 x] w fun e w'=>e=.returned (.tuple #[])/\w'=w:=by
 go_enter Tryz.func212,Tryz.ntmps212;go_wp2_with (go_at_call 174;refine (tV _).mono ?_;rintro e w' ⟨rfl,rfl⟩);first | go_end0 | refine bodyPost_ret (results_none rfl _ _ _) rfl ?_
 exact⟨rfl,rfl⟩
theorem rY(x:Int)(hx:(x == 0)=false){b:Nat}{s:ByteArray}{w:World}(k:Rd w b s 0):
 Calls Tryz.prog 212 #[.pointer (some ⟨b,0,none⟩),.int .i64 x] w fun e w'=>e=.returned (.tuple #[])/\Rd w' b ⟨#[]⟩ x/\On b w w':=by
 have c0:=k.c0;have f0:=k.f0 0;have k1:=k.set0 ⟨#[]⟩;have c1:=k1.c1;have f1:=k1.f0 1;have k2:=k1.set1 x;have o1:On b w ((w.setCell ⟨b,0,none⟩ (.string ⟨#[]⟩)).setCell ⟨b,1,none⟩ (.int .i64 x)):=((On.refl b w).set 0 _).set 1 _;have e13:=bE k;go_enter Tryz.func212,Tryz.ntmps212;go_wp2_with (go_at_call 174;refine e13.mono ?_;rintro e w' ⟨rfl,rfl⟩);first | go_end0 | refine bodyPost_ret (results_none rfl _ _ _) rfl ?_
 exact⟨rfl,k2,o1⟩
theorem xS(x y:Int)(hx:(x == 0)=false)(hy:(y == 0)=false){b:Nat}{s:ByteArray}{w:World}(k:Rd w b s y):
 Calls Tryz.prog 212 #[.pointer (some ⟨b,0,none⟩),.int .i64 x] w fun e w'=>e=.returned (.tuple #[])/\w'=w:=by
 have e13:=bE k;go_enter Tryz.func212,Tryz.ntmps212;go_wp2_with (go_at_call 174;refine e13.mono ?_;rintro e w' ⟨rfl,rfl⟩);first | go_end0 | refine bodyPost_ret (results_none rfl _ _ _) rfl ?_
 exact⟨rfl,rfl⟩
theorem qW(l t:List Nat):(bs (l++t)).extract l.length (bs (l++t)).size=bs t:=by
 rw[jK,au,List.drop_left,aah,Nat.add_sub_cancel_left,aaz (aac _)]
theorem tX(l t:List Nat):(bs (l++t)).extract 0 l.length=bs l:=by
 rw[jK];simp
theorem vv(l t:List Nat)(x:Int){b:Nat}{w:World}(k:Rd w b (bs (l++t)) x):
 Calls Tryz.prog 172 #[.pointer (some ⟨b,0,none⟩),.int .i64 l.length] w fun e w'=>e=.returned (.string (bs l))/\Rd w' b (bs t) x/\On b w w':=by
 have c0:=k.c0;have f0:=k.f0 0;have h1:=tX l t;have hx:=qW l t;have hsz:(bs (l++t)).size=l.length+t.length:=by rw[au];simp
 have k2:=k.set0 (bs t);have o2:On b w (w.setCell ⟨b,0,none⟩ (.string (bs t))):=(On.refl b w).set 0 _;have K2:Hid (Rd (w.setCell ⟨b,0,none⟩ (.string (bs t))) b (bs t) x):=k2;generalize bs (l++t)=s at *;have hls:l.length<=s.size:=by omega
 clear k2 k hsz;generalize l.length=L at *;go_enter Tryz.func172,Tryz.ntmps172;go_wp2;go_ret;exact⟨rfl,K2.out,o2⟩
theorem MK(w:World)(l:List Nat)(hs:Small l):∃ cap w',(convert 9 56 (.string (bs l))).run Tryz.prog w=.ok (.slice (some ⟨w.heap.size,0,none⟩) l.length cap) w'/\Kept w w' /\
  ∀ i,i<l.length->w'.cell? ⟨w.heap.size,i,none⟩=some (.int .u8 (l.getD i 0:Nat)):=by
 have h:=run_bytes_of_string (P:=Tryz.prog) w 9 56 5 (bs l) Tryz.underlying9 Tryz.underlying56 Tryz.underlying5;rw[au]at h;refine⟨_,_,h,((Kept.refl w).drew).alloc _,fun i hi=>?_⟩;have e:=World.cell?_alloc_mark w.drew (bytesRow (bs l) (grownCap w l.length 0 5)) 5 ((bytesRow (bs l) (grownCap w l.length 0 5)).size,(bytesRow (bs l) (grownCap w l.length 0 5)).size+1) i;have hz:i<(bs l).data.size:=by rw[<- au l]at hi;exact hi
 have e2:=bytesRow_at (bs l) (grownCap w l.length 0 5) i hz;have e3:=Bh l i (by rw[au];exact hi);rw[Nat.mod_eq_of_lt (hs.getD i)]at e3;refine e.trans (e2.trans ?_);rw[<- e3];rfl
theorem ML(n i:Nat)(hn:n<18446744073709551616)(x:Nat)(hx:n % 256 ^ (i+1)=n % 256 ^ i+x*256 ^ i) :
  bits .or .u64 ((n % 256 ^ i:Nat):Int) (IntKind.u64.wrap ((x:Int)*2 ^ (8*i)))=((n % 256 ^ (i+1):Nat):Int):=by
 have e:(256:Nat) ^ i=2 ^ (8*i):=by rw[Nat.pow_mul]
 have h1:n % 256 ^ i<2 ^ (8*i):=by rw[<- e];exact Nat.mod_lt _ (by rw[e];exact Nat.two_pow_pos _)
 have h2:n % 256 ^ (i+1)<=n:=Nat.mod_le _ _;have h3:x*2 ^ (8*i)<18446744073709551616:=by rw[<- e];omega
 have h4:IntKind.u64.wrap ((x:Int)*2 ^ (8*i))=((x*2 ^ (8*i):Nat):Int):=by
  have:((x*2 ^ (8*i):Nat):Int)=(x:Int)*2 ^ (8*i):=by simp
  rw[IntKind.wrap_u64];omega
 rw[h4,bits_or_u64_nat _ _ (by omega) h3,Bi _ _ _ h1,hx,<- e]
theorem tY(n:Nat)(l:List Nat)(x:Int)(hf:QQ l x){m l':List Nat}{x':Int}(e:dJ n l x=(m,l',x')){b:Nat}{w:World}(k:Rd w b (bs l) x):
 Calls Tryz.prog 172 #[.pointer (some ⟨b,0,none⟩),.int .i64 n] w fun e w'=>e=.returned (.string (bs m))/\Rd w' b (bs l') x'/\On b w w':=by
 by_cases h:n<=l.length
 ·unfold dJ at e
  rw[aao h]at e;injection e with e1 e2;injection e2 with e2 e3;subst e1 e2 e3
  have hl:(l.take n).length=n:=by simp;omega
  have:=vv (l.take n) (l.drop n) x (b:=b) (w:=w) (by rw[aax];exact k);rw[hl]at this;exact this
 ·unfold dJ at e
  rw[aai h]at e;injection e with e1 e2;injection e2 with e2 e3;subst e1 e2 e3
  have c0:=k.c0;have hz:=au l;rcases hf with rfl | ⟨rfl,rfl⟩
  ·have f1:=rY 2 rfl k
   clear k;generalize bs l=s at *;have hs:s.size<n:=by omega
   clear hz h;go_enter Tryz.func172,Tryz.ntmps172;go_wp2_with (go_at_call 212;refine f1.mono ?_;rintro e w1 ⟨rfl,k1,o1⟩);go_ret;exact⟨rfl,k1,o1⟩
  ·have f1:=xS 2 2 rfl rfl k
   have K:Hid (Rd w b (bs []) 2):=k;clear k;generalize hs0:bs []=s at *;have HS:Hid (bs []=s):=hs0;clear hs0;have hz':s.size=0:=hz;have h':¬ n<=0:=h;have hs:s.size<n:=by omega
   clear hz' h';clear hz h;go_enter Tryz.func172,Tryz.ntmps172;go_wp2_with (go_at_call 212;refine f1.mono ?_;rintro e w1 ⟨rfl,hw⟩;rw[hw];clear hw);go_ret;exact⟨by rw[<- HS.out];rfl,K.out,On.refl _ _⟩
theorem dz(q:Int)(l:List Nat)(hl:Small l)(x:Int)(hf:QQ l x){m l':List Nat}{x':Int}(e:dJ (rD q) l x=(m,l',x')){b:Nat}{w:World}(r:Rd w b (bs l) x):
 Calls Tryz.prog 214 #[.pointer (some ⟨b,0,none⟩),.int .i64 q] w fun e w'=>e=.returned (.int .u64 ((bM m:Nat):Int))/\Rd w' b (bs l') x'/\On b w w':=by
 have Zb:=vV q;have Zc:=Fs q;have h21:=tY (rD q) l x hf e r;obtain⟨hsm,_,hm,_,_⟩:=dh hl e;clear e hf;have hfl:=JJ hsm;have hlt:=G6 hsm;have hn:bM m<18446744073709551616:=by
  have:(256:Nat) ^ m.length<=256 ^ 8:=Nat.pow_le_pow_right (by omega) (by omega);omega
 have hfa:=G5 m.length (bM m);have HC:Hid (∀ w,∃ cap w',(convert 9 56 (.string (bs m))).run Tryz.prog w=.ok (.slice (some ⟨w.heap.size,0,none⟩) m.length cap) w'/\Kept w w'/\Hid (∀ i,i<m.length->w'.cell? ⟨w.heap.size,i,none⟩=some (.int .u8 ((bM m / 256 ^ i % 256:Nat):Int)))):=by
  intro w;obtain⟨cap,w',h1,h2,h3⟩:=MK w m hsm;exact⟨cap,w',h1,h2,fun i hi=>by have:=h3 i (by omega);rwa [<- hfa i hi,hfl]⟩
 have HM:Hid (bM m=bM m % 256 ^ m.length):=(Nat.mod_eq_of_lt hlt).symm;have hlen:m.length<=8:=by omega
 clear hsm hfl hfa hlt hm;generalize rD q=kq at *;generalize m.length=k at *;generalize bM m=n at *;generalize bs m=s at *;have hb:=r.lt;go_enter Tryz.func214,Tryz.ntmps214;go_wp2_with (first
  | (go_at_call 155;refine (Zb _).mono ?_;rintro e w' ⟨rfl,hw⟩;rw[hw];clear hw)
  | (go_at_call 172;refine h21.mono ?_;rintro e w3 ⟨rfl,r3,o3⟩;obtain⟨cap,w4,hcv,hk4,hcell⟩:=HC.out w3))
 go_loopg [5,14] k (fun g nv iv wx=>∃ i A:Nat,i+g=k/\A=n % 256 ^ i/\nv=.int .u64 A/\iv=.int .i64 (i:Nat)/\wx=w4);case atStart=>exact⟨0,0,by omega,by rw[Nat.pow_zero,Nat.mod_one],rfl,rfl,rfl⟩
 case round=>
  obtain⟨i,A,hg,hA,rfl,rfl,rfl⟩:=hrel;have HG:Hid (i+gk=k):=hg;have HA:Hid (A=n % 256 ^ i):=hA;clear hA;cases gk with
  | zero=>
   obtain rfl:i=k:=by omega
   clear hg;go_wp2;go_ret;refine⟨by rw[HM.out,<- HA.out];rfl,hk4.rd r3,o3.trans (hk4.on _)⟩
  | succ g=>
   have hik:i<k:=by omega
   have hc:=hcell.out i hik;have p1:=tN n (256 ^ i) 256;rw[<- Nat.pow_succ]at p1;have p3:=ML n i hn (n / 256 ^ i % 256) p1;rw[<- HA.out]at p3;obtain⟨x,hx⟩:∃ x,x=n / 256 ^ i % 256:=⟨_,rfl⟩;rw[<- hx]at hc p3;have hx2:x<256:=by omega
   obtain⟨B,hB⟩:∃ B,B=n % 256 ^ (i+1):=⟨_,rfl⟩;rw[<- hB]at p3;have HB:Hid (B=n % 256 ^ (i+1)):=hB;clear hg p1 hx hB;go_wp2;go_roundg g;case measure=>omega
   case rel=>exact⟨i+1,B,by have:=HG.out;omega,HB.out,rfl,by go_num,rfl⟩
theorem MM(x:Nat)(h:x<256):bits .or .u8 (x:Int) 128=((128+x % 128:Nat):Int):=by
 have key:∀ y:Fin 256,bits .or .u8 ((y.val:Nat):Int) 128=((128+y.val % 128:Nat):Int):=by decide +kernel
 exact key ⟨x,h⟩
theorem qE(n0:Nat)(hn0:n0<18446744073709551616)(w:World):
 Calls Tryz.prog 111 #[.int .u64 n0] w fun e w'=>e=.returned (.string (bs (ae n0)))/\Kept w w':=by
 obtain⟨i0,hi,hz0,hz1,hz2⟩:=info_parts info5;have UT:=lU n0 hn0;go_enter Tryz.func111,Tryz.ntmps111;go_wp2;go_loopg [0,3] n0 (fun g nv v wx=>∃ done n,ae n0=done++ae n/\n=g/\n<18446744073709551616/\nv=.int .u64 (n:Nat)/\wx.ownsRow w.heap.size 5 1 v done.length (cellsOf done)/\Kept w wx);case atStart=>exact⟨[],n0,rfl,rfl,hn0,rfl,World.ownsRow_nil _ _ _ _,Kept.refl _⟩
 case round=>
  obtain⟨done,n,hl,hg,hn,rfl,hown,hk⟩:=hrel;obtain⟨p,cap,rfl⟩:=aF hown;have hd:done.length<=10:=by rw[hl]at UT;simp at UT;omega
  have HL:Hid (ae n0=done++ae n):=hl;have HG:Hid (n=gk):=hg;have HO:Hid (wr.ownsRow w.heap.size 5 1 (.slice p done.length cap) done.length (cellsOf done)):=hown;clear hl hg hown UT;by_cases h:n<128
  ·go_wp2_with (at_builtin;refine wpList_append_own _ rfl _ _ 56 rfl w.heap.size 5 i0 (.int .u8 0) 1 1 Tryz.underlying56 hi hz0 hz1 hz2 rfl (by decide) (.slice p done.length cap) done.length (cellsOf done) rfl ?c0 _ 1 1 [.int .u8 (n:Int)] rfl rfl ?c1 ?c2 ?c3 ?c4 ?c5 ?_)
   case c0=>exact HO.out.alloc _
   case c1=>exact one_cell _ _ _
   case c2=>exact one_one _ _
   case c3=>unfold maxLen;omega
   case c4=>omega
   case c5=>have:=hk.size;simp;omega
   intro v' w1 hown1 hgrow _;have hk1:Kept w w1:=lK hk HO.out ((Kept.refl wr).alloc _) hgrow;have tx:(convert 56 9 v').run Tryz.prog w1=.ok (.string (bs (done++[n]))) w1:=tT (by simpa[cellsOf] using hown1);clear hgrow hi hz0 hz1 hz2 hown1;go_wp2;go_ret;refine⟨?_,hk1⟩;rw[HL.out,aK h];rfl
  ·have e1:bits .or .u8 ((n:Int) % 256) 128=((128+n % 128:Nat):Int):=by
    have:=MM (n % 256) (by omega);rw[Nat.mod_mod_of_dvd n (by decide:128 ∣ 256)]at this;exact this
   go_wp2_with (at_builtin;refine wpList_append_own _ rfl _ _ 56 rfl w.heap.size 5 i0 (.int .u8 0) 1 1 Tryz.underlying56 hi hz0 hz1 hz2 rfl (by decide) (.slice p done.length cap) done.length (cellsOf done) rfl ?c0 _ 1 1 [.int .u8 ((128+n % 128:Nat):Int)] rfl rfl ?c1 ?c2 ?c3 ?c4 ?c5 ?_)
   case c0=>exact HO.out.alloc _
   case c1=>exact one_cell _ _ _
   case c2=>exact one_one _ _
   case c3=>unfold maxLen;omega
   case c4=>omega
   case c5=>have:=hk.size;simp;omega
   intro v' w1 hown1 hgrow _
   have hk1:Kept w w1:=lK hk HO.out ((Kept.refl wr).alloc _) hgrow
   clear hgrow hi hz0 hz1 hz2
   have H1:Hid (w1.ownsRow w.heap.size 5 1 v' (done.length+1) (cellsOf done++[.int .u8 ((128+n % 128:Nat):Int)])):=hown1
   clear hown1
   go_wp2
   go_roundg (n / 128)
   case measure=>have:=HG.out;omega
   case rel=>
    refine⟨done++[128+n % 128],n / 128,by rw[HL.out,bu h];simp,rfl,by omega,by go_num,?_,hk1⟩;have:=H1.out;simpa[cellsOf] using this
structure One (w:World) (b:Nat) (x:Int):Prop where
 out:w.cell? ⟨b,0,none⟩=some (.int .u8 x)
theorem Kept.one(h:Kept w w')(b:Nat)(x:Int)(k:One w b x):One w' b x:=
 ⟨(h.out.cell (World.block_lt_of_cell? w _ k.out)).trans k.out⟩
theorem One.alloc(w:World)(x:Int):One (w.alloc (.cells #[.int .u8 x] 5)) w.heap.size x:=⟨by simp⟩
theorem One.drew(w:World)(b:Nat)(x:Int)(h:One w b x):One w.drew b x:=(Kept.refl w).drew.one b x h
theorem qX(x:Nat)(h:x<256):bits .andNot .u8 (x:Int) 128=((x % 128:Nat):Int):=by
 have key:∀ y:Fin 256,bits .andNot .u8 ((y.val:Nat):Int) 128=((y.val % 128:Nat):Int):=by decide +kernel
 exact key ⟨x,h⟩
theorem MN(A z k:Nat)(hA:A<18446744073709551616) :
  ∃ B:Nat,B<18446744073709551616/\bits .or .u64 (A:Int) (IntKind.u64.wrap ((z:Int)*2 ^ (7*k)))=(B:Int) /\
   ∀ m,m<=16384->A=m % 128 ^ k->m % 128 ^ (k+1)=m % 128 ^ k+z*128 ^ k->B=m % 128 ^ (k+1):=by
 have e:(128:Nat) ^ k=2 ^ (7*k):=by rw[Nat.pow_mul]
 have h4:IntKind.u64.wrap ((z:Int)*2 ^ (7*k))=((z*2 ^ (7*k) % 18446744073709551616:Nat):Int):=by
  have:((z*2 ^ (7*k):Nat):Int)=(z:Int)*2 ^ (7*k):=by simp
  rw[IntKind.wrap_u64];omega
 have h5:z*2 ^ (7*k) % 18446744073709551616<18446744073709551616:=Nat.mod_lt _ (by decide);refine⟨A ||| (z*2 ^ (7*k) % 18446744073709551616),?_,?_,?_⟩
 ·exact Nat.or_lt_two_pow (n:=64) hA h5
 ·rw[h4,bits_or_u64_nat _ _ (by omega) h5]
 ·intro m hm hAm hs
  have h1:m % 128 ^ k<2 ^ (7*k):=by rw[<- e];exact Nat.mod_lt _ (by rw[e];exact Nat.two_pow_pos _)
  have h2:m % 128 ^ (k+1)<=m:=Nat.mod_le _ _;have h3:z*2 ^ (7*k)<18446744073709551616:=by rw[<- e];omega
  rw[Nat.mod_eq_of_lt h3,hAm,Bi _ _ _ h1,hs,<- e]
structure G8 (l:List Nat) (n k:Nat) (x:Int):Prop where
 fits:n<18446744073709551616
 within:k<=l.length
 kind:x=0\/x=2\/x=3
 own:∀ m,m<=16384->l=ae m->x=0/\n=m/\k=l.length
theorem JN(l:List Nat)(hl:Small l)(ht:l.length<=100000)(w:World):
 Calls Tryz.prog 211 #[.string (bs l)] w fun e w'=>w'=w/\∃ (n k:Nat) (x:Int),e=.returned (.tuple #[.int .u64 n,.int .i64 (k:Nat),.int .i64 x])/\G8 l n k x:=by
 generalize hs:bs l=s;have hsz:s.size=l.length:=by rw[<- hs,au]
 have hb:∀ k (h:k<s.size),s[k].toNat=l.getD k 0:=by subst hs;exact fun k h=>by rw[Bh _ k h,Nat.mod_eq_of_lt (hl.getD k)]
 have HL:Hid (s.size=l.length):=hsz;have HB:Hid (∀ k (h:k<s.size),s[k].toNat=l.getD k 0):=hb;have hsm:s.size<=100000:=by omega
 have HSm:Hid (Small l):=hl;clear hsz hb hs ht hl;go_enter Tryz.func211,Tryz.ntmps211;go_wp2;go_loopg [5,10] s.size (fun g acc at_ wx=>∃ k A:Nat,k+g=s.size/\k<=9/\A<18446744073709551616/\(k=0->A=0)/\(∀ m,m<=16384->l=ae m->A=m % 128 ^ k/\k<s.size)/\acc=.int .u64 A/\at_=.int .i64 k/\wx=w);case atStart=>exact⟨0,0,by omega,by omega,by omega,fun _=>rfl,fun m _ e=>⟨by rw[Nat.pow_zero,Nat.mod_one],by rw[HL.out,e];have:=tQ m;cases h:ae m with
   | nil=>exact absurd h this
   | cons _ _=>simp⟩,rfl,rfl,rfl⟩
 case round=>
  obtain⟨k,A,hg,hk9,hA,hz,hm,rfl,rfl,rfl⟩:=hrel;have HM:Hid (∀ m,m<=16384->l=ae m->A=m % 128 ^ k/\k<s.size):=hm;have HZ:Hid (k=0->A=0):=hz;have HG:Hid (k+gk=s.size):=hg;clear hm hz;cases gk with
  | zero=>
   have hks:k=s.size:=by omega
   clear hg;go_wp2;go_ret3;refine⟨rfl,0,0,2,rfl,by decide,aag _,by decide,fun m h1 h2=>?_⟩;have:=(HM.out m h1 h2).2;omega
  | succ g=>
   have hks:k<s.size:=by omega
   clear hg;have hx0:=HB.out k hks;have hy:=HSm.out.getD k;have hst:∀ m,m<=16384->l=ae m->A=m % 128 ^ k/\m % 128 ^ (k+1)=m % 128 ^ k+l.getD k 0 % 128*128 ^ k/\(l.getD k 0<128->k+1=l.length/\m % 128 ^ (k+1)=m/\(k=0\/l.getD k 0≠0))/\(¬ l.getD k 0<128->k+1<s.size)/\k<=2:=by
    intro m h1 h2;have h3:k<(ae m).length:=by rw[<- h2,<- HL.out];exact hks
    obtain⟨a,b,c⟩:=xP k m h3;have h4:=xQ h1;rw[<- h2]at a b c h3 h4;exact⟨(HM.out m h1 h2).1,a,b,fun h=>by rw[HL.out];exact c h,by omega⟩
   generalize hyy:l.getD k 0=y at *;clear hyy;have HST:Hid (∀ m,m<=16384->l=ae m->A=m % 128 ^ k/\m % 128 ^ (k+1)=m % 128 ^ k+y % 128*128 ^ k/\(y<128->k+1=l.length/\m % 128 ^ (k+1)=m/\(k=0\/y≠0))/\(¬ y<128->k+1<s.size)/\k<=2):=hst;clear hst;have e1:=qX y hy;by_cases h0:y=0
   ·subst h0
    by_cases hk0:k=0
    ·subst hk0
     have Uw:A=0:=HZ.out rfl;subst Uw;clear e1;go_wp2;go_ret3;refine⟨rfl,0,1,0,rfl,by decide,by rw[<- HL.out];omega,by decide,fun m h1 h2=>?_⟩;obtain⟨a,b,c,_⟩:=HST.out m h1 h2;obtain⟨c1,c2,_⟩:=c (by decide);simp[Nat.mod_one]at b c2;exact⟨rfl,by omega,by omega⟩
    ·have hk1:(0:Int)<(k:Int):=by omega
     clear e1;go_wp2;all_goals go_ret3
     all_goals refine⟨rfl,0,0,3,rfl,by decide,aag _,by decide,fun m h1 h2=>?_⟩
     all_goals
      obtain⟨a,b,c,_⟩:=HST.out m h1 h2
      obtain⟨c1,c2,c3⟩:=c (by decide)
      rcases c3 with c3 | c3
      ·exact absurd c3 hk0
      ·exact absurd rfl c3
   ·have t0:((y:Int) == 0)=false:=by simp;omega
    obtain⟨B,hB,pB,qB⟩:=MN A (y % 128) k hA;have HQ:Hid (∀ m,m<=16384->A=m % 128 ^ k->m % 128 ^ (k+1)=m % 128 ^ k+y % 128*128 ^ k->B=m % 128 ^ (k+1)):=qB;clear qB;obtain⟨z,hz⟩:∃ z,z=y % 128:=⟨_,rfl⟩;rw[<- hz]at e1 pB;have hz2:z<128:=by omega
    have HZZ:Hid (z=y % 128):=hz;clear hz;by_cases h9:k=9
    ·subst h9
     by_cases h1:y<=1
     ·have p9:bits .or .u64 (A:Int) ((z:Int)*9223372036854775808)=(B:Int):=by
       rw[<- pB,IntKind.wrap_u64];congr 1;have:=HZZ.out;omega
      have hzz:z<=1:=by have:=HZZ.out;omega
      clear pB
      go_wp2
      all_goals go_ret3
      all_goals refine⟨rfl,B,10,0,rfl,hB,by rw[<- HL.out];omega,by decide,fun m h1 h2=>?_⟩
      all_goals have:=(HST.out m h1 h2).2.2.2.2;omega
     ·have h1':(1:Int)<(y:Int):=by omega
      clear pB e1;go_wp2;all_goals go_ret3
      all_goals refine⟨rfl,0,0,3,rfl,by decide,aag _,by decide,fun m h1 h2=>?_⟩
      all_goals have:=(HST.out m h1 h2).2.2.2.2;omega
    ·have t9:((k:Int) == 9)=false:=by simp;omega
     have Zc:k<=8:=by omega
     by_cases h1:y<128
     ·go_wp2
      all_goals go_ret3
      all_goals refine⟨rfl,B,k+1,0,rfl,hB,by rw[<- HL.out];omega,by decide,fun m h2 h3=>?_⟩
      all_goals
       obtain⟨a,b,c,_⟩:=HST.out m h2 h3
       obtain⟨c1,c2,_⟩:=c h1
       exact⟨rfl,(HQ.out m h2 a b).trans c2,c1⟩
     ·go_wp2
      all_goals
       go_roundg g
       case measure=>omega
       case rel=>
        refine⟨k+1,B,by have:=HG.out;omega,by omega,hB,by omega,fun m h2 h3=>?_,rfl,by go_num,rfl⟩;obtain⟨a,b,_,d,_⟩:=HST.out m h2 h3;exact⟨HQ.out m h2 a b,d h1⟩
theorem MO(l:List Nat)(hl:Small l)(ht:l.length<=100000){b:Nat}{w:World}(k:Rd w b (bs l) 0):
 Calls Tryz.prog 171 #[.pointer (some ⟨b,0,none⟩),.int .u64 16384] w fun e w'=>On b w w'/\∃ x:Nat,e=.returned (.int .u64 (x:Nat))/\x<=16384/\∀ m,m<=16384->l=ae m->x=m:=by
 have c0:=k.c0;have f0:=k.f0 0;have e13:=bE k;have e33:=JN l hl ht w;have HF:Hid (∀ x:Int,(x == 0)=false->Calls Tryz.prog 212 #[.pointer (some ⟨b,0,none⟩),.int .i64 x] w fun e w'=>e=.returned (.tuple #[])/\Rd w' b ⟨#[]⟩ x/\On b w w'):=fun x hx=>rY x hx k
 have HO:Hid (∀ t,On b w (w.setCell ⟨b,0,none⟩ (.string t))):=fun t=>(On.refl b w).set 0 _
 have HZ:Hid ((bs l).size=l.length):=au l;generalize bs l=s at *;clear k;go_enter Tryz.func171,Tryz.ntmps171;go_wp2_with (first
  | (go_at_call 174;refine e13.mono ?_;rintro e w' ⟨rfl,rfl⟩)
  | (go_at_call 211;refine e33.mono ?_;rintro e w' ⟨rfl,n,kk,x,rfl,hF⟩;have hks:kk<=s.size:=(by have:=hF.within;have:=HZ.out;omega);have HFI:Hid (G8 l n kk x):=hF;have hn:=hF.fits;clear e13 e33;rcases hF.kind with hx | hx | hx <;> (clear hF;subst hx))
  | (go_at_call 212;refine (HF.out _ rfl).mono ?_;rintro e w1 ⟨rfl,k1,o1⟩))
 all_goals go_ret
 ·exact⟨o1,0,rfl,by omega,fun m h1 h2=>by have:=HFI.out.own m h1 h2;omega⟩
 ·exact⟨HO.out _,n,rfl,by omega,fun m h1 h2=>(HFI.out.own m h1 h2).2.1⟩
 ·exact⟨o1,0,rfl,by omega,fun m h1 h2=>by have:=(HFI.out.own m h1 h2).1;cases this⟩
 ·exact⟨o1,0,rfl,by omega,fun m h1 h2=>by have:=(HFI.out.own m h1 h2).1;cases this⟩
