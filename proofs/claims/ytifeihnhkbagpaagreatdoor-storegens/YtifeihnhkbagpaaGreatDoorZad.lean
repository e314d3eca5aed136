/- Joined. -/
import Derived.Test.YtifeihnhkbagpaaGreatDoorZac
import Derived.Deep.RegionWith
import Derived.Laws.BitsAllLaws
set_option maxHeartbeats 2000000
set_option maxRecDepth 100000
namespace Go.Proofs.YtifeihnhkbagpaaGreatDoor.S
open ChangeShapes WideShapes ChangeAt RowKit
theorem Cu(n:Nat):IntKind.u64.wrap ((2:Int) ^ (n % 64))=((2 ^ (n % 64):Nat):Int):=by
 have h:2 ^ (n % 64)<2 ^ 64:=Nat.pow_lt_pow_right (by decide) (Nat.mod_lt _ (by decide));have e:(2:Int) ^ (n % 64)=((2 ^ (n % 64):Nat):Int):=by push_cast;rfl
 rw[IntKind.wrap_u64,e];generalize 2 ^ (n % 64)=z at h ⊢;omega
theorem xC(n:Nat):2 ^ (n % 64)<18446744073709551616:=by
 have h:2 ^ (n % 64)<2 ^ 64:=Nat.pow_lt_pow_right (by decide) (Nat.mod_lt _ (by decide));omega
theorem or_eq(x n:Nat)(hx:x<18446744073709551616):bits BinOp.or IntKind.u64 (x:Int) (IntKind.u64.wrap ((2:Int) ^ (n % 64)))=((x ||| 2 ^ (n % 64):Nat):Int):=by
 rw[Cu,bits_or_u64_nat _ _ hx (xC n)]
theorem TL(x n:Nat)(hx:x<18446744073709551616):x ||| 2 ^ (n % 64)<18446744073709551616:=
 Nat.or_lt_two_pow (n:=64) hx (xC n)
theorem Jo(x n:Nat)(hx:x<18446744073709551616):bits BinOp.andNot IntKind.u64 (x:Int) (IntKind.u64.wrap ((2:Int) ^ (n % 64)))=((x &&& (18446744073709551615-2 ^ (n % 64)):Nat):Int):=by
 rw[Cu,u64_andNot_nat _ _ hx (xC n)]
theorem Jp(x n:Nat)(hx:x<18446744073709551616):x &&& (18446744073709551615-2 ^ (n % 64))<18446744073709551616:=
 Nat.lt_of_le_of_lt Nat.and_le_left hx
theorem E8(x n j:Nat)(hj:j<64):(x &&& (18446744073709551615-2 ^ (n % 64))).testBit j=(x.testBit j && !decide (j=n % 64)):=by
 have h:18446744073709551615-2 ^ (n % 64)=2 ^ 64-(2 ^ (n % 64)+1):=by have:=xC n;omega
 rw[Nat.testBit_and,h,Nat.testBit_two_pow_sub_succ (by have:=xC n;omega),Nat.testBit_two_pow];by_cases e:j=n % 64
 ·subst e;simp
 ·have e':¬ n % 64=j:=fun q=>e q.symm
  simp[hj,e,e']
variable {B b m l:Nat}{w:World}
theorem rT.drew{ws:List Nat}{v:Value}(h:rT B w b m l ws v):rT B w.drew b m l ws v:=h.kept ((Kept.refl w).drew)
variable {u:Nat->Bool}
theorem GR(h:wJ B w b m l u)(hB:B<=w.heap.size)(n:Nat)(hn:n<m)(hu:u n=false)(hl0:0<l):
 Calls Tryz.prog 73 #[.pointer (some ⟨b,0,none⟩),.int .i64 n] w fun e w'=>e=.returned (.bool true)/\wJ B w' b m (l-1) (aS u n)/\On B w w':=by
 have hc:=A8 h n hn;rw[hu]at hc;have hr:=EZ h hB n hn;go_enter Tryz.func73,Tryz.ntmps73;go_wp2_with (first
  | (go_at_call 102;refine hc.mono ?_;rintro e w' ⟨rfl,rfl⟩)
  | (go_at_call 103;refine hr.mono ?_;rintro e w1 ⟨rfl,⟨ws,v,k,hws,hj⟩,ho1⟩;obtain⟨g,c,rfl,hg,hcg,hfg⟩:=k.oN (n / 64) hj;obtain⟨c0,c1,c2⟩:=k.cell;have hll:=k.long;have hmm:=k.few))
 have i1:(0:Int)<=(n:Int) / 64:=by omega
 have i2:(n:Int) / 64<(ws.length:Int):=by omega
 have i3:(0:Int)<=(n:Int) % 64:=by omega
 have i4:(n:Int) % 64<64:=by omega
 have WG:=k.frozen 1;go_region;rw[or_eq _ _ (k.word _ (List.getElem_mem hj))];have hlt:=TL ws[n / 64] n (k.word _ (List.getElem_mem hj));have HU:Hid (∀ q,aS u n q=aX (ws.set (n / 64) (ws[n / 64] ||| 2 ^ (n % 64))) q):=by
  intro q;rw[zP _ _ _ hj,aS,hws]
 generalize ws[n / 64] ||| 2 ^ (n % 64)=x at hlt HU ⊢;obtain⟨k2,o2⟩:=k.put (aad hB ho1.size) (n / 64) x hlt;have k3:=k2.drew;have o3:=(ho1.trans o2).drew;generalize (w1.setCell ⟨g,n / 64,none⟩ (.int .u64 x)).drew=W at k3 o3 ⊢;obtain⟨d0,d1,d2⟩:=k3.cell;have f1:=k3.frozen 1;obtain⟨k4,o4⟩:=k3.count (l-1) (by have:=k3.free;omega);have o5:=o3.trans o4;have el:((l-1:Nat):Int)=(l:Int)-1:=by omega
 rw[el]at k4 o5;have hlm:l<=4096:=aad k3.free hmm;clear k2 o2 o3 o4 k hws hcg hfg c0 c1 c2 hr hc el h i1 i2 i3 i4 WG;go_wp2;go_ret;exact⟨rfl,⟨_,_,k4,HU.out⟩,o5⟩
theorem Qs(x k idx:Nat)(w:World)(hx0:((x:Int) == 0)=false)(key:IntKind.u64.wrap (bits BinOp.and IntKind.u64 (x:Int) (IntKind.u64.wrap (-(x:Int)))*285870213051353865) / 288230376151711744=(idx:Int))(hi:idx<64)(hk:k<64)(hcell:w.cell? ⟨1,idx,none⟩=some (.int .u8 k)):
 Calls Tryz.prog 230 #[.int .u64 x] w fun e w'=>e=.returned (.int .i64 k)/\w'=w:=by
 go_enter Tryz.func230,Tryz.ntmps230;go_wp2_with (simp only[key]);go_ret;exact⟨rfl,rfl⟩
theorem Qt(x:Nat)(hx:x<18446744073709551616)(hx0:x≠0)(w:World)(hL:gU w):
 Calls Tryz.prog 230 #[.int .u64 x] w fun e w'=>e=.returned (.int .i64 (Lib.ctz 64 x:Nat))/\w'=w:=by
 obtain⟨hlow,hk⟩:=Lib.lowest_bit 64 x hx0 hx;obtain⟨hi,htab⟩:=Lib.deBruijn64_at _ hk;have hcell:=hL.tab _ hi;rw[htab]at hcell;exact Qs x _ _ w (by simp;omega) (tz64_key x _ hx hx0 hlow) hi hk hcell
theorem L9(x:Nat)(hx:x<18446744073709551616)(hx0:x≠0):Lib.ctz 64 x<64/\x.testBit (Lib.ctz 64 x)=true/\∀ i,i<Lib.ctz 64 x->x.testBit i=false:=by
 unfold Lib.ctz;rw[aai hx0];obtain⟨m,hm,hc⟩:=Lib.ctzFrom_spec 64 x (by omega) hx;generalize Lib.ctzFrom 64 x=c at hm hc ⊢;subst hm;refine⟨hc,?_,fun i hi=>?_⟩
 ·rw[Nat.testBit_two_pow_mul]
  simp
 ·rw[Nat.testBit_two_pow_mul]
  simp;omega
def kL (x s:Nat):Nat:=(18446744073709551615-x) / 2 ^ s
theorem GU(x s:Nat):kL x s<18446744073709551616:=Nat.lt_of_le_of_lt (Nat.div_le_self _ _) (by omega)
theorem xD(x s i:Nat)(hx:x<18446744073709551616):(kL x s).testBit i=(decide (s+i<64) && !x.testBit (s+i)):=by
 unfold kL;rw[Nat.testBit_div_two_pow,show 18446744073709551615-x=2 ^ 64-(x+1) by omega,Nat.testBit_two_pow_sub_succ (by omega),Nat.add_comm i s]
structure qj (u:Nat->Bool) (n r:Nat):Prop where
 le:n<=r
 free:u r=false
 used:∀ j,n<=j->j<r->u j=true
theorem Jq(ws:List Nat)(n:Nat)(hj:n / 64<ws.length)(hw:ws[n / 64] < 18446744073709551616)(h0:kL ws[n / 64] (n % 64)=0):∀ j,n<=j->j<n+(64-n % 64)->aX ws j=true:=by
 intro j h1 h2;have e:j / 64=n / 64:=by omega
 have hb:=xD ws[n / 64] (n % 64) (j % 64-n % 64) hw;rw[h0,Nat.zero_testBit,show n % 64+(j % 64-n % 64)=j % 64 by omega]at hb;unfold aX;rw[e,aaN,aae hj,Option.getD_some];have h3:j % 64<64:=by omega
 simpa[h3] using hb.symm
theorem Jr(ws:List Nat)(n:Nat)(hj:n / 64<ws.length)(hw:ws[n / 64] < 18446744073709551616)(h0:kL ws[n / 64] (n % 64)≠0):qj (aX ws) n (n+Lib.ctz 64 (kL ws[n / 64] (n % 64)))/\Lib.ctz 64 (kL ws[n / 64] (n % 64))<64:=by
 obtain⟨hc,h1,h2⟩:=L9 _ (GU _ _) h0;have hat:∀ i,n % 64+i<64->aX ws (n+i) = !(kL ws[n / 64] (n % 64)).testBit i:=by
  intro i hi;rw[xD _ _ _ hw];unfold aX;rw[show (n+i) / 64=n / 64 by omega,show (n+i) % 64=n % 64+i by omega,aaN,aae hj,Option.getD_some];simp[hi]
 have hlt:n % 64+Lib.ctz 64 (kL ws[n / 64] (n % 64))<64:=by
  rw[xD _ _ _ hw]at h1;simp at h1;exact h1.1
 refine⟨⟨by omega,by rw[hat _ hlt,h1];rfl,fun j hj1 hj2=>?_⟩,hc⟩;obtain⟨i,rfl⟩:∃ i,j=n+i:=⟨j-n,by omega⟩;rw[hat i (by omega),h2 i (by omega)];rfl
theorem Qu(x s:Nat)(hx:x<18446744073709551616):bits BinOp.xor IntKind.u64 (if IntKind.u64.signed=true then -1 else IntKind.u64.max) (x:Int) / 2 ^ s=((kL x s:Nat):Int):=by
 have e0:(if IntKind.u64.signed=true then (-1:Int) else IntKind.u64.max)=((18446744073709551615:Nat):Int):=by decide
 have e1:18446744073709551615 ^^^ x=18446744073709551615-x:=by
  apply Nat.eq_of_testBit_eq;intro i;rw[Nat.testBit_xor,show 18446744073709551615-x=2 ^ 64-(x+1) by omega,Nat.testBit_two_pow_sub_succ (by omega),show 18446744073709551615=2 ^ 64-1 by decide,Nat.testBit_two_pow_sub_one];by_cases h:i<64
  ·simp[h]
  ·have:x.testBit i=false:=Nat.testBit_lt_two_pow (aas hx (by rw[show 18446744073709551616=2 ^ 64 by decide];exact Nat.pow_le_pow_right (by decide) (by omega)))
   simp[h,this]
 rw[e0,bits_xor_u64_nat _ _ (by decide) hx,e1];unfold kL;push_cast;rfl
theorem Cw(ws:List Nat)(n:Nat)(hj:ws.length<=n / 64):aX ws n=false:=by
 rw[aX,aaN,List.getElem?_eq_none hj];simp
theorem Js(h:wJ B w b m l u)(hL:gU w)(n:Nat)(hn:n<9223372036854775808):
 Calls Tryz.prog 203 #[.pointer (some ⟨b,0,none⟩),.int .i64 n] w fun e w'=>∃ r:Nat,e=.returned (.int .i64 r)/\qj u n r/\w'=w:=by
 obtain⟨ws,v,k,hu⟩:=h.out;obtain rfl:u=aX ws:=funext hu;obtain⟨c0,c1,c2⟩:=k.cell;have hll:=k.long;obtain⟨p,c,rfl⟩:=k.form;go_enter Tryz.func203,Tryz.ntmps203;go_wp2;go_loop [1] (fun t=>∃ q:Nat,n<=q/\(q<=n\/q<=4096)/\(∀ j,n<=j->j<q->aX ws j=true)/\t=.int .i64 q) (fun t=>4096-(intOf t).toNat);case atStart=>exact⟨n,aac _,.inl (aac _),fun j h1 h2=>by omega,rfl⟩
 case round=>
  obtain⟨q,hq1,hq2,hq3,rfl⟩:=hrel;have HQ:Hid (∀ j,n<=j->j<q->aX ws j=true):=hq3;clear hq3;by_cases hj:q / 64<ws.length
  ·obtain⟨g,c',e,hg,hcg,hfg⟩:=k.oN (q / 64) hj
   injection e with e1 e2 e3
   subst e1;subst e3;have hw:=k.word _ (List.getElem_mem hj);have hsm:=Jr ws q hj hw;have hno:=Jq ws q hj hw;have hlt:=GU ws[q / 64] (q % 64);have hq5:q<4096:=by omega
   have hX:=Qu ws[q / 64] (q % 64) hw;generalize kL ws[q / 64] (q % 64)=r at hsm hno hlt hX;have HS:Hid (r≠0->qj (aX ws) q (q+Lib.ctz 64 r)/\Lib.ctz 64 r<64):=hsm;have HN:Hid (r=0->∀ j,q<=j->j<q+(64-q % 64)->aX ws j=true):=hno;clear hsm hno;by_cases r0:r=0
   ·subst r0
    have hX':bits BinOp.xor IntKind.u64 (if IntKind.u64.signed=true then -1 else IntKind.u64.max) (ws[q / 64]:Int) / 2 ^ (q % 64)=0:=hX;clear hX;go_wp2;go_round;case rel=>
     refine⟨q+(64-q % 64),by omega,by omega,fun j h1 h2=>?_,by go_num⟩;by_cases hjq:j<q
     ·exact HQ.out j h1 hjq
     ·exact HN.out rfl j (by omega) h2
    case measure=>simp[intOf];omega
   ·have hne:((r:Int) != 0)=true:=by simp;exact r0
    have htz:=Qt r hlt r0 w hL;obtain⟨hfr,YO⟩:=HS.out r0;generalize Lib.ctz 64 r=z at htz hfr YO;have HF:Hid (qj (aX ws) q (q+z)):=hfr;clear hfr HS HN;go_wp2_with (go_at_call 230;refine htz.mono ?_;rintro e w' ⟨rfl,rfl⟩);go_ret;refine⟨q+z,by go_num,⟨by omega,HF.out.free,fun j h1 h2=>?_⟩,rfl⟩;by_cases hjq:j<q
    ·exact HQ.out j h1 hjq
    ·exact HF.out.used j (by omega) h2
  ·go_wp2
   go_ret;exact⟨q,rfl,⟨hq1,Cw ws q (by omega),HQ.out⟩,rfl⟩
