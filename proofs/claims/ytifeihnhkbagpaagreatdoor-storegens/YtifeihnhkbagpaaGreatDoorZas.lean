/- Joined. -/
import Derived.Test.YtifeihnhkbagpaaGreatDoorZar
import Derived.Deep.RegionWith
import Derived.Laws.IdiomStrings
set_option maxRecDepth 100000
set_option maxHeartbeats 1000000
namespace Go.Proofs.YtifeihnhkbagpaaGreatDoor.N
open ChangeShapes WideShapes ChangeAt RowKit
structure One (w:World) (b:Nat) (x:Int):Prop where
 out:w.cell? ⟨b,0,none⟩=some (.int .u8 x)
variable {w w':World}
theorem Kept.one(h:Kept w w')(b:Nat)(x:Int)(k:One w b x):One w' b x:=
 ⟨(h.out.cell (World.block_lt_of_cell? w _ k.out)).trans k.out⟩
theorem One.alloc(w:World)(x:Int):One (w.alloc (.cells #[.int .u8 x] 5)) w.heap.size x:=⟨by simp⟩
theorem One.drew(w:World)(b:Nat)(x:Int)(h:One w b x):One w.drew b x:=(Kept.refl w).drew.one b x h
variable {b:Nat}{x:Int}
theorem One.text(h:One w b x)(h0:0<=x) :
  (convert 56 9 (.slice (some ⟨b,0,none⟩) 1 1)).run Tryz.prog w=.ok (.string (bs [x.toNat])) w:=by
 rw[run_convert_bytes_arg w 56 5 Tryz.underlying56 Tryz.underlying5 b 0 1 1 [x] rfl (fun i hi=>?_) 9 Tryz.underlying9]
 ·have:strOfNums [x]=bs [x.toNat]:=by rw[<- strOf];simp;congr 1;simp;omega
  rw[this]
 ·obtain rfl:i=0:=by omega
  exact h.out
structure Rd (w:World) (b:Nat) (s:ByteArray) (e:Int):Prop where
 out:w.heap[b]? = some (.cells #[.string s,.int .i64 e] 283)
structure On (b:Nat) (w w':World):Prop where
 out:Below b w w'
theorem On.refl(b:Nat)(w:World):On b w w:=⟨Below.refl _ _⟩
variable {B:Nat}
theorem On.trans{a b c:World}(h:On B a b)(k:On B b c):On B a c:=⟨h.out.trans k.out⟩
theorem On.mono{B':Nat}(h:On B w w')(hB:B'<=B):On B' w w':=⟨h.out.mono hB⟩
theorem On.size(h:On B w w'):w.heap.size<=w'.heap.size:=h.out.size
theorem Kept.on(h:Kept w w'){b:Nat}(hb:b<=w.heap.size):On b w w':=⟨h.out.mono hb⟩
theorem Kept.rd(h:Kept w w'){b:Nat}{s:ByteArray}{e:Int}(k:Rd w b s e):Rd w' b s e:=⟨h.block k.out⟩
variable {s:ByteArray}{e:Int}
theorem Rd.lt(k:Rd w b s e):b<w.heap.size:=(aaa.1 k.out).1
theorem Rd.c0(k:Rd w b s e):w.cell? ⟨b,0,none⟩=some (.string s):=by rw[cell_of_row w b 0 _ _ _ k.out];rfl
theorem Rd.c1(k:Rd w b s e):w.cell? ⟨b,1,none⟩=some (.int .i64 e):=by rw[cell_of_row w b 1 _ _ _ k.out];rfl
theorem Rd.f0(k:Rd w b s e)(j:Nat):w.frozen? ⟨b,j,none⟩=false:=frozen_of_row w b j _ _ k.out
theorem Rd.set0(k:Rd w b s e)(t:ByteArray):Rd (w.setCell ⟨b,0,none⟩ (.string t)) b t e:=
 ⟨by rw[heap_setCell_same w b 0 _ _ _ k.out];rfl⟩
theorem Rd.set1(k:Rd w b s e)(x:Int):Rd (w.setCell ⟨b,1,none⟩ (.int .i64 x)) b s x:=
 ⟨by rw[heap_setCell_same w b 1 _ _ _ k.out];rfl⟩
theorem dN(s:ByteArray)(w:World):
 Calls Tryz.prog 168 #[.string s] w fun e w'=>e=.returned (.pointer (some ⟨w.heap.size,0,none⟩))/\Rd w' w.heap.size s 0/\Kept w w':=by
 go_enter Tryz.func168,Tryz.ntmps168;go_wp2;go_ret;exact⟨rfl,⟨by show (w.heap.push _)[w.heap.size]? = _;simp⟩,(Kept.refl w).alloc _⟩
theorem tV(w:World):Calls Tryz.prog 174 #[.pointer none] w fun e w'=>e=.returned (.int .i64 2)/\w'=w:=by
 go_enter Tryz.func174,Tryz.ntmps174;go_wp2;go_ret;exact⟨rfl,rfl⟩
theorem bE(k:Rd w b s x):Calls Tryz.prog 174 #[.pointer (some ⟨b,0,none⟩)] w fun e w'=>e=.returned (.int .i64 x)/\w'=w:=by
 have c1:=k.c1;go_enter Tryz.func174,Tryz.ntmps174;go_wp2;go_ret;exact⟨rfl,rfl⟩
theorem xA(w:World):Calls Tryz.prog 173 #[.pointer none] w fun e w'=>e=.returned (.int .i64 0)/\w'=w:=by
 go_enter Tryz.func173,Tryz.ntmps173;go_wp2;go_ret;exact⟨rfl,rfl⟩
theorem lG(k:Rd w b s x):Calls Tryz.prog 173 #[.pointer (some ⟨b,0,none⟩)] w fun e w'=>e=.returned (.int .i64 s.size)/\w'=w:=by
 have c0:=k.c0;go_enter Tryz.func173,Tryz.ntmps173;go_wp2;go_ret;exact⟨rfl,rfl⟩
theorem Bu(w:World):Calls Tryz.prog 210 #[.pointer none] w fun e w'=>e=.returned (.int .i64 2)/\w'=w:=by
 go_enter Tryz.func210,Tryz.ntmps210;go_wp2_with (first
  | (go_at_call 174;refine (tV _).mono ?_;rintro e w' ⟨rfl,rfl⟩)
  | (go_at_call 173;refine (xA _).mono ?_;rintro e w' ⟨rfl,rfl⟩))
 go_ret;exact⟨rfl,rfl⟩
theorem nV(k:Rd w b ⟨#[]⟩ x):Calls Tryz.prog 210 #[.pointer (some ⟨b,0,none⟩)] w fun e w'=>e=.returned (.int .i64 x)/\w'=w:=by
 have h:=lG k;rw[show (⟨#[]⟩:ByteArray).size=0 from rfl]at h;go_enter Tryz.func210,Tryz.ntmps210;go_wp2_with (first
  | (go_at_call 174;refine (bE k).mono ?_;rintro e w' ⟨rfl,rfl⟩)
  | (go_at_call 173;refine h.mono ?_;rintro e w' ⟨rfl,rfl⟩))
 go_ret;exact⟨rfl,rfl⟩
theorem CX(x:Int)(hx:(x == 0)=false)(w:World):Calls Tryz.prog 212 #[.pointer none,.int .i64 x] w fun e w'=>e=.returned (.tuple #[])/\w'=w:=by
 go_enter Tryz.func212,Tryz.ntmps212;go_wp2_with (go_at_call 174;refine (tV _).mono ?_;rintro e w' ⟨rfl,rfl⟩);first | go_end0 | refine bodyPost_ret (results_none rfl _ _ _) rfl ?_
 exact⟨rfl,rfl⟩
theorem rY(x:Int)(hx:(x == 0)=false){b:Nat}{s:ByteArray}{w:World}(k:Rd w b s 0):
 Calls Tryz.prog 212 #[.pointer (some ⟨b,0,none⟩),.int .i64 x] w fun e w'=>e=.returned (.tuple #[])/\Rd w' b ⟨#[]⟩ x/\On b w w':=by
 have c0:=k.c0;have f0:=k.f0 0;have k1:=k.set0 ⟨#[]⟩;have c1:=k1.c1;have f1:=k1.f0 1;have k2:=k1.set1 x;have o1:On b w ((w.setCell ⟨b,0,none⟩ (.string ⟨#[]⟩)).setCell ⟨b,1,none⟩ (.int .i64 x)):=⟨((Below.refl b w).setCell (aac _) _).setCell (aac _) _⟩;have e13:=bE k;go_enter Tryz.func212,Tryz.ntmps212;go_wp2_with (go_at_call 174;refine e13.mono ?_;rintro e w' ⟨rfl,rfl⟩);first | go_end0 | refine bodyPost_ret (results_none rfl _ _ _) rfl ?_
 exact⟨rfl,k2,o1⟩
theorem xS(x y:Int)(hx:(x == 0)=false)(hy:(y == 0)=false){b:Nat}{s:ByteArray}{w:World}(k:Rd w b s y):
 Calls Tryz.prog 212 #[.pointer (some ⟨b,0,none⟩),.int .i64 x] w fun e w'=>e=.returned (.tuple #[])/\w'=w:=by
 have e13:=bE k;go_enter Tryz.func212,Tryz.ntmps212;go_wp2_with (go_at_call 174;refine e13.mono ?_;rintro e w' ⟨rfl,rfl⟩);first | go_end0 | refine bodyPost_ret (results_none rfl _ _ _) rfl ?_
 exact⟨rfl,rfl⟩
theorem qX(x:Nat)(h:x<256):bits .andNot .u8 (x:Int) 128=((x % 128:Nat):Int):=by
 have key:∀ y:Fin 256,bits .andNot .u8 ((y.val:Nat):Int) 128=((y.val % 128:Nat):Int):=by decide +kernel
 exact key ⟨x,h⟩
theorem H9(n k:Nat)(hn:n<18446744073709551616)(x:Nat)(hx:n % 128 ^ (k+1)=n % 128 ^ k+x*128 ^ k) :
  bits .or .u64 ((n % 128 ^ k:Nat):Int) ((x:Int)*2 ^ (7*k) % 18446744073709551616)=((n % 128 ^ (k+1):Nat):Int):=by
 have e:(128:Nat) ^ k=2 ^ (7*k):=by rw[Nat.pow_mul]
 have h1:n % 128 ^ k<2 ^ (7*k):=by rw[<- e];exact Nat.mod_lt _ (by rw[e];exact Nat.two_pow_pos _)
 have h2:n % 128 ^ (k+1)<=n:=Nat.mod_le _ _;have h3:x*2 ^ (7*k)<18446744073709551616:=by rw[<- e];omega
 have h4:((x:Int)*2 ^ (7*k) % 18446744073709551616)=((x*2 ^ (7*k):Nat):Int):=by
  have:((x*2 ^ (7*k):Nat):Int)=(x:Int)*2 ^ (7*k):=by simp
  omega
 rw[h4,bits_or_u64_nat _ _ (by omega) h3,Bi _ _ _ h1,hx,<- e]
theorem Kb(n k:Nat)(h:n / 128 ^ k<128):n % 128 ^ (k+1)=n % 128 ^ k+n / 128 ^ k*128 ^ k/\n % 128 ^ (k+1)=n:=by
 have:=tN n (128 ^ k) 128;rw[<- Nat.pow_succ,Nat.mod_eq_of_lt h]at this;refine⟨this,?_⟩;rw[this,Nat.mul_comm];exact Nat.mod_add_div n (128 ^ k)
theorem xX(n:Nat)(hn:n<18446744073709551616)(t:List Nat)(ht:t.length<=100000)(w:World):
 Calls Tryz.prog 211 #[.string (bs (ae n++t))] w fun e w'=>e=.returned (.tuple #[.int .u64 n,.int .i64 ((ae n).length:Nat),.int .i64 0])/\w'=w:=by
 have h10:=lU n hn;generalize hs:bs (ae n++t)=s;have hsz:s.size=(ae n).length+t.length:=by rw[<- hs,au];simp
 have hb:∀ k (h:k<s.size),s[k].toNat=((ae n++t).getD k 0) % 256:=by subst hs;exact fun k h=>Bh _ k h
 have HS:Hid (s.size=(ae n).length+t.length):=hsz;have HB:Hid (∀ k (h:k<s.size),s[k].toNat=((ae n++t).getD k 0) % 256):=hb;have hsm:s.size<=100010:=by omega
 clear hsz hb hs;go_enter Tryz.func211,Tryz.ntmps211;go_wp2;go_loopg [5,10] n (fun g acc at_ wx=>∃ k m A:Nat,A=n % 128 ^ k/\m=g/\m=n / 128 ^ k/\(k=0\/m≠0)/\(ae n++t).drop k=ae m++t/\k+(ae m).length=(ae n).length/\acc=.int .u64 A/\at_=.int .i64 k/\wx=w);case atStart=>exact⟨0,n,0,by rw[Nat.pow_zero,Nat.mod_one],rfl,by simp,Or.inl rfl,by simp,by simp,rfl,rfl,rfl⟩
 case round=>
  obtain⟨k,m,A,hA,hg,hm,hz,hd,hl,rfl,rfl,rfl⟩:=hrel;have hne:1<=(ae m).length:=by have:=tQ m;cases h:ae m with
   | nil=>exact absurd h this
   | cons _ _=>simp
  have hk9:k<=9:=by omega
  have hks:k<s.size:=by have:=HS.out;omega
  have Zu:k=9->m<2:=by intro e;subst e;rw[hm];omega
  have hget:(ae n++t).getD k 0=(ae m++t).getD 0 0:=by rw[<- hd];simp[List.getD]
  have hx0:=HB.out k hks;rw[hget]at hx0;have HA:Hid (A=n % 128 ^ k):=hA;have HG:Hid (m=gk):=hg;have HM:Hid (m=n / 128 ^ k):=hm;have HD:Hid ((ae n++t).drop k=ae m++t):=hd;have HL:Hid (k+(ae m).length=(ae n).length):=hl;clear hA hg hm hd hl hget;by_cases h:m<128
  ·rw[aK h]at hx0
   have hx:s[k].toNat=m:=by rw[hx0];simp;omega
   obtain⟨p1,p2⟩:=Kb n k (by rw[<- HM.out];exact h);have p3:=H9 n k hn m (by rw[HM.out];exact p1);have e1:=qX m (by omega);rw[p2,<- HA.out]at p3;rw[Nat.mod_eq_of_lt h]at e1;have hlen:k+1=(ae n).length:=by rw[<- HL.out,aK h];rfl
   have HN:Hid (k+1=(ae n).length):=hlen;have p4:bits .or .u64 (A:Int) (IntKind.u64.wrap ((m:Int)*2 ^ (7*k)))=(n:Int):=by rw[IntKind.wrap_u64];exact p3
   clear p1 p2 hx0 hlen;by_cases h0:m=0
   ·have hk0:k=0:=by rcases hz with hz | hz;exact hz;exact absurd h0 hz
    subst hk0;have hn0:n=0:=by have:=HM.out;rw[Nat.pow_zero,Nat.div_one]at this;omega
    have Uw:A=0:=by rw[HA.out,Nat.pow_zero,Nat.mod_one]
    subst hn0 Uw h0;clear p3 p4 e1;have HN2:Hid (1=(ae 0).length):=HN.out;go_wp2;go_ret3;exact⟨by rw[<- HN2.out];rfl,rfl⟩
   ·have t0:((m:Int) == 0)=false:=by simp;omega
    by_cases h1:m<=1
    ·by_cases h9:k=9
     ·subst h9
      have p9:bits .or .u64 (A:Int) ((m:Int)*9223372036854775808)=(n:Int):=by
       rw[<- p3];congr 1;omega
      clear p3 p4;go_wp2;go_ret3;exact⟨by rw[<- HN.out];rfl,rfl⟩
     ·have t9:((k:Int) == 9)=false:=by simp;omega
      clear p3;go_wp2;all_goals go_ret3
      all_goals exact⟨by rw[<- HN.out];rfl,rfl⟩
    ·have t9:((k:Int) == 9)=false:=by simp;intro e;have:=Zu (by omega);omega
     clear p3;go_wp2;all_goals go_ret3
     all_goals exact⟨by rw[<- HN.out];rfl,rfl⟩
  ·have t9:((k:Int) == 9)=false:=by simp;intro e;have:=Zu (by omega);omega
   have Zc:k<=8:=by
    rcases Nat.lt_or_ge 8 k with h8 | h8
    ·have:=Zu (by omega);omega
    ·exact h8
   rw[bu h]at hx0;have hx:s[k].toNat=128+m % 128:=by rw[hx0];simp;omega
   have e1:=qX (128+m % 128) (by omega);rw[show (128+m % 128) % 128=m % 128 by omega]at e1;have p1:=tN n (128 ^ k) 128;rw[<- Nat.pow_succ,<- HM.out]at p1;have p3:=H9 n k hn (m % 128) p1;rw[<- HA.out]at p3;obtain⟨y,hy⟩:∃ y,y=128+m % 128:=⟨_,rfl⟩;have hy2:128<=y/\y<256:=by omega
   obtain⟨hy3,hy4⟩:=hy2;have t0:((y:Int) == 0)=false:=by simp;omega
   rw[<- hy]at hx e1;obtain⟨z,hz2⟩:∃ z,z=m % 128:=⟨_,rfl⟩;rw[<- hz2]at e1 p3;have hz3:z<128:=by omega
   obtain⟨B,hB⟩:∃ B,B=n % 128 ^ (k+1):=⟨_,rfl⟩;rw[<- hB]at p3;have p4:bits .or .u64 (A:Int) (IntKind.u64.wrap ((z:Int)*2 ^ (7*k)))=(B:Int):=by rw[IntKind.wrap_u64];exact p3
   have HB2:Hid (B=n % 128 ^ (k+1)):=hB;clear p1 p3 hx0 hy hz2 hB hz;go_wp2
   ·go_roundg (m / 128)
    case measure=>have:=HG.out;omega
    case rel=>
     refine⟨k+1,m / 128,B,HB2.out,rfl,?_,Or.inr (by omega),?_,?_,rfl,by go_num,rfl⟩
     ·rw[HM.out,Nat.div_div_eq_div_mul,<- Nat.pow_succ]
     ·rw[<- List.drop_drop,HD.out,bu h];rfl
     ·rw[<- HL.out,bu h,aau];omega
   ·go_roundg (m / 128)
    case measure=>have:=HG.out;omega
    case rel=>
     refine⟨k+1,m / 128,B,HB2.out,rfl,?_,Or.inr (by omega),?_,?_,rfl,by go_num,rfl⟩
     ·rw[HM.out,Nat.div_div_eq_div_mul,<- Nat.pow_succ]
     ·rw[<- List.drop_drop,HD.out,bu h];rfl
     ·rw[<- HL.out,bu h,aau];omega
theorem qW(l t:List Nat):(bs (l++t)).extract l.length (bs (l++t)).size=bs t:=by
 rw[jK,au,List.drop_left,aah,Nat.add_sub_cancel_left,aaz (aac _)]
theorem Kc(n:Nat)(hn:n<18446744073709551616)(t:List Nat)(ht:t.length<=100000)(most:Nat)(hm:n<=most){b:Nat}{w:World}(k:Rd w b (bs (ae n++t)) 0):
 Calls Tryz.prog 171 #[.pointer (some ⟨b,0,none⟩),.int .u64 most] w fun e w'=>e=.returned (.int .u64 n)/\Rd w' b (bs t) 0/\On b w w':=by
 have h10:=lU n hn;have c0:=k.c0;have f0:=k.f0 0;have e13:=bE k;have e33:=xX n hn t ht w;have hx:=qW (ae n) t;have hsz:(bs (ae n++t)).size=(ae n).length+t.length:=by rw[au];simp
 have k2:=k.set0 (bs t);have o2:On b w (w.setCell ⟨b,0,none⟩ (.string (bs t))):=⟨(Below.refl b w).setCell (aac _) _⟩;have K2:Hid (Rd (w.setCell ⟨b,0,none⟩ (.string (bs t))) b (bs t) 0):=k2;generalize bs (ae n++t)=s at *;generalize (ae n).length=L at *;have hls:L<=s.size:=by omega
 clear k2 hsz k;go_enter Tryz.func171,Tryz.ntmps171;go_wp2_with (first
  | (go_at_call 174;refine e13.mono ?_;rintro e w' ⟨rfl,rfl⟩)
  | (go_at_call 211;refine e33.mono ?_;rintro e w' ⟨rfl,rfl⟩))
 go_ret;exact⟨rfl,K2.out,o2⟩
def rD (q:Int):Nat:=(min (max q 0) 8).toNat
theorem Fs(q:Int):rD q<=8:=by unfold rD;omega
theorem Ke(tl:List Nat)(hl:tl.length<=100000)(w:World):
 Calls Tryz.prog 233 #[.string (bs tl)] w fun e w'=>e=.returned (.string (bs (ae tl.length++tl)))/\Kept w w':=by
 have h10:=qE tl.length (by omega);have hz:=au tl;have hn:=lU tl.length (by omega);have hz2:=au (ae tl.length);have hc:=eU (ae tl.length) tl;generalize bs (ae tl.length++tl)=r at *;generalize bs (ae tl.length)=x at *;generalize bs tl=s at *;have hx:x.size<=10:=by omega
 clear hz2 hn;go_enter Tryz.func233,Tryz.ntmps233;go_wp2_with (go_at_call 111;refine (h10 _).mono ?_;rintro e w1 ⟨rfl,hk1⟩);go_ret;exact⟨rfl,hk1⟩
theorem take_nil(q:Int)(w:World):Calls Tryz.prog 172 #[.pointer none,.int .i64 q] w fun e w'=>e=.returned (.string ⟨#[]⟩)/\w'=w:=by
 go_enter Tryz.func172,Tryz.ntmps172;go_wp2_with (go_at_call 212;refine (CX 2 rfl _).mono ?_;rintro e w' ⟨rfl,rfl⟩);go_ret;exact⟨rfl,rfl⟩
theorem tX(l t:List Nat):(bs (l++t)).extract 0 l.length=bs l:=by
 rw[jK];simp
theorem vv(l t:List Nat)(x:Int){b:Nat}{w:World}(k:Rd w b (bs (l++t)) x):
 Calls Tryz.prog 172 #[.pointer (some ⟨b,0,none⟩),.int .i64 l.length] w fun e w'=>e=.returned (.string (bs l))/\Rd w' b (bs t) x/\On b w w':=by
 have c0:=k.c0;have f0:=k.f0 0;have h1:=tX l t;have hx:=qW l t;have hsz:(bs (l++t)).size=l.length+t.length:=by rw[au];simp
 have k2:=k.set0 (bs t);have o2:On b w (w.setCell ⟨b,0,none⟩ (.string (bs t))):=⟨(Below.refl b w).setCell (aac _) _⟩;have K2:Hid (Rd (w.setCell ⟨b,0,none⟩ (.string (bs t))) b (bs t) x):=k2;generalize bs (l++t)=s at *;have hls:l.length<=s.size:=by omega
 clear k2 k hsz;generalize l.length=L at *;go_enter Tryz.func172,Tryz.ntmps172;go_wp2;go_ret;exact⟨rfl,K2.out,o2⟩
