/- Joined. -/
import Derived.Test.YtifeihnhkbagpaaGreatDoorZaw
import Derived.Laws.Cover1
set_option maxRecDepth 100000
set_option maxHeartbeats 4000000
namespace Go.Proofs.YtifeihnhkbagpaaGreatDoor.N
open ChangeShapes WideShapes ChangeAt RowKit
variable {ks:List ByteArray}
theorem Vi{key k:ByteArray}(h:ks[bP key ks]? = some k):gG key ks=(k.toList == key.toList):=by
 unfold gG;rw[h,Rv];simp
variable {w:World}{b n c:Nat}
theorem Ko{off:Nat}(hl:ks.length=n)(hc:∀ j u,(dA ks)[j]? = some u->w.cell? ⟨b,off+j,none⟩=some u)(hn:n<=100000)(key:ByteArray):
 Calls Tryz.prog 64 #[.slice (some ⟨b,off,none⟩) n c,.string key] w fun e w'=>e=.returned (.tuple #[.int .i64 (bP key ks:Nat),.bool (gG key ks)])/\w'=w:=by
 have HC:Hid (∀ j k,ks[j]? = some k->w.cell? ⟨b,off+j,none⟩=some (.string k)):=fun j k hk=>hc j _ (vE hk)
 have HL:Hid (ks.length=n):=hl;clear hc hl;go_enter Tryz.func64,Tryz.ntmps64;go_wp2;go_loopg [10] n (fun g v wx=>∃ i:Nat,v=.int .i64 i/\Hid (g=n-i)/\i<=n/\Hid (∀ j,j<i->∀ k,ks[j]? = some k->sl k key=true)/\wx=w);case atStart=>exact⟨0,rfl,rfl,aag _,(fun j hj=>absurd hj (Nat.not_lt_zero _)),rfl⟩
 case round=>
  obtain⟨i,rfl,hg,hi,hlo,rfl⟩:=hrel;by_cases hin:i<n
  ·have hil:i<ks.length:=by rw[HL.out];exact hin
   obtain⟨k,hk⟩:∃ k,ks[i]? = some k:=⟨_,aae hil⟩;have hcell:=HC.out i k hk;have Hk:Hid (ks[i]? = some k):=hk;clear hk hil;by_cases hs:Op.bytesLess k.toList key.toList=true
   ·go_wp2
    go_roundg (n-(i+1));case measure=>rw[hg.out];omega
    case rel=>
     refine⟨i+1,by go_num,rfl,by omega,?_,rfl⟩;intro j hj k2 hk2;by_cases e:j=i
     ·subst e;rw[Hk.out]at hk2;cases hk2;exact hs
     ·exact hlo.out j (by omega) k2 hk2
   ·have hs':Op.bytesLess k.toList key.toList=false:=by simpa using hs
    clear hs;have hf:bP key ks=i:=Np key hlo.out (by rw[HL.out];exact hi) (fun k2 hk2=>by rw[Hk.out]at hk2;cases hk2;exact hs');have hf2:gG key ks=(k.toList == key.toList):=Vi (by rw[hf];exact Hk.out);have HF:Hid (bP key ks=i):=hf;have RA:Hid (gG key ks=(k.toList == key.toList)):=hf2;clear hf hf2;go_wp2;go_ret2;rw[HF.out,RA.out];exact⟨rfl,rfl⟩
  ·obtain rfl:i=n:=by omega
   have hf:bP key ks=i:=Np key hlo.out (by rw[HL.out];exact aac _) (fun k2 hk2=>by rw[List.getElem?_eq_none (by rw[HL.out];exact aac _)]at hk2;cases hk2);have hf2:gG key ks=false:=by unfold gG;rw[hf,List.getElem?_eq_none (by rw[HL.out];exact aac _)];rfl
   have HF:Hid (bP key ks=i):=hf;have RA:Hid (gG key ks=false):=hf2;clear hf hf2 hin;go_wp2;go_ret2;rw[HF.out,RA.out];exact⟨rfl,rfl⟩
theorem Kr(key:ByteArray):
 Calls Tryz.prog 64 #[.slice none 0 c,.string key] w fun e w'=>e=.returned (.tuple #[.int .i64 0,.bool false])/\w'=w:=by
 go_enter Tryz.func64,Tryz.ntmps64;go_wp2;go_loopg [10] 0 (fun _ v wx=>v=.int .i64 0/\wx=w);case atStart=>exact⟨rfl,rfl⟩
 case round=>
  obtain⟨rfl,rfl⟩:=hrel;go_wp2;go_ret2;exact⟨rfl,rfl⟩
variable {p:Option Addr}
theorem jO(h:Rw w 1 p n c (dA ks))(hn:n<=100000)(key:ByteArray):
 Calls Tryz.prog 64 #[.slice p n c,.string key] w fun e w'=>e=.returned (.tuple #[.int .i64 (bP key ks:Nat),.bool (gG key ks)])/\w'=w:=by
 have hl:=h.len;rw[iK,aay]at hl;rcases h.out with⟨rfl,rfl⟩|⟨b,off,rfl,hc⟩
 ·obtain rfl:ks=[]:=aaL.1 hl
  exact Kr key
 ·exact Ko hl hc hn key
theorem Ia(k m:Nat)(hk:k<=14)(h1:(BitVec.ofInt 64 (m:Int)).toNat=2 ^ k-1)(a:Int):∃ x:Nat,x<2 ^ k/\bits .and .i64 a m=(x:Int):=by
 have key:(BitVec.ofInt 64 a &&& BitVec.ofInt 64 m).toNat=(a % ((2 ^ 64:Nat):Int)).toNat % 2 ^ k:=by
  rw[BitVec.toNat_and,BitVec.toNat_ofInt,h1,Nat.and_two_pow_sub_one_eq_mod]
 have hp:2 ^ k<=2 ^ 14:=Nat.pow_le_pow_right (by decide) hk;have hl:=Nat.mod_lt (a % ((2 ^ 64:Nat):Int)).toNat (Nat.two_pow_pos k);refine⟨(a % ((2 ^ 64:Nat):Int)).toNat % 2 ^ k,hl,?_⟩;show IntKind.i64.wrap ((BitVec.ofInt 64 a &&& BitVec.ofInt 64 m).toNat:Nat)=_;rw[key,IntKind.wrap_i64];omega
structure Ki where
 s:ByteArray
 v:ByteArray
 pg:Int
 ln:Int
def cut (s:ByteArray) (m:Int):ByteArray:=s.extract 0 (min (s.size:Int) m).toNat
theorem Dr(s:ByteArray)(m:Nat):(cut s m).size<=m:=by
 unfold cut;rw[ByteArray.size_extract];omega
def RD (x:Ki):Vl:=if bits .and .i64 x.pg 1=0 then ⟨cut x.v 48,-1,0⟩ else ⟨⟨#[]⟩,bits .and .i64 x.pg 16383,49+bits .and .i64 x.ln 16383⟩
def Nq (x:Ki):ByteArray:=cut x.s 64
def BD (v:Vl):Prop:=(v.p=-1/\v.l=0/\v.d.size<=48)\/(v.d=⟨#[]⟩/\∃ p l:Nat,v.p=(p:Int)/\p<=16383/\v.l=(l:Int)/\49<=l/\l<=16432)
theorem Ib(x:Ki):BD (RD x):=by
 unfold RD;split
 ·exact .inl ⟨rfl,rfl,Dr x.v 48⟩
 ·obtain⟨p,hp,ep⟩:=Ia 14 16383 (by decide) (by decide) x.pg
  obtain⟨l,hl,el⟩:=Ia 14 16383 (by decide) (by decide) x.ln;have ep':bits .and .i64 x.pg 16383=(p:Int):=ep;have el':bits .and .i64 x.ln 16383=(l:Int):=el;refine .inr ⟨rfl,p,49+l,?_,by omega,?_,by omega,by omega⟩
  ·show bits .and .i64 x.pg 16383=_;exact ep'
  ·show 49+bits .and .i64 x.ln 16383=_;rw[el'];omega
theorem Kt(x:Ki):(Nq x).size<=64:=Dr x.s 64
theorem RF(ks:List ByteArray)(i:Nat)(key:ByteArray):(dA ks).take i++Value.string key :: (dA ks).drop i=dA (ins ks i key):=by
 simp[dA,ins]
theorem RG(vs:List Vl)(i:Nat)(v:Vl):(dQ vs).take (i*3)++v.cells++(dQ vs).drop (i*3)=dQ (ins vs i v):=by
 rw[yu,yw,ins,ma,jZ,aap]
variable {B sz:Nat}{e:TypeId}{cs:List Value}
theorem Own.jw(k:Own w B e sz p n c cs){b:Nat}(h:b<B\/w.heap.size<=b):some b≠blk p:=by
 rcases k.cases with⟨rfl,_⟩|⟨g,cur,rfl,h1,h2,_⟩
 ·simp[blk]
 ·simp[blk];omega
theorem Own.head_ne(k:Own w B e sz p n c cs){b:Nat}(h:w.heap.size<=b):∀ g,p=some ⟨g,0,none⟩->g≠b:=by
 rintro g rfl rfl;rcases k.cases with⟨hx,_⟩|⟨g',cur,hx,h1,h2,_⟩
 ·cases hx
 ·injection hx with hx;injection hx with hx;omega
variable {q:Option Addr}
theorem Own.grown{w':World}{B':Nat}{e':TypeId}{sz':Nat}{n' c':Nat}{cs':List Value}(k:Own w B e sz p n c cs)(o:Own w B' e' sz' q n' c' cs')(he:e≠e')(h:w.grownBy w' (blk q)):Own w' B e sz p n c cs:=by
 refine⟨k.out.kept h ?_⟩;rcases k.cases with⟨rfl,_⟩|⟨g,cur,rfl,_,_,hg,_⟩
 ·exact .inl rfl
 ·refine .inr (fun hx=>?_)
  rcases o.cases with⟨rfl,_⟩|⟨g',cur',rfl,_,_,hg',_⟩
  ·cases hx
  ·simp[blk,Value.ownBlock]at hx
   subst hx;rw[hg]at hg';injection hg' with hg'
   injection hg' with _ hg'
   exact he hg'
variable {W W':World}
theorem yB(hk:Kept w W)(o:Own W B e sz q n c cs)(hB:w.heap.size<=B)(h:W.grownBy W' (blk q)):Kept w W':=by
 refine⟨hk.out.grown h hk.size ?_⟩;rcases o.cases with⟨rfl,_⟩|⟨g,cur,rfl,h1,_⟩
 ·intro k hx;cases hx
 ·intro k hx;simp[blk]at hx;omega
variable {t:TypeId}{a0 a1 a2 a3:Value}
theorem C4.own_ne(k:C4 w b t a0 a1 a2 a3){B:Nat}{e:TypeId}{sz:Nat}{p:Option Addr}{n c:Nat}{cs:List Value}(o:Own w B e sz p n c cs)(h:t≠e):some b≠blk p:=by
 rcases o.cases with⟨rfl,_⟩|⟨g,cur,rfl,_,_,hg,_⟩
 ·simp[blk]
 ·intro hx
  simp[blk]at hx;subst hx;rw[k.out]at hg;injection hg with hg
  injection hg with _ hg
  exact h hg
theorem Own.yC(k:Own w B e sz p n c cs)(a:Addr)(v:Value)(h:some a.block≠blk p):Own (w.setCell a v) B e sz p n c cs:=by
 refine⟨k.out.kept (vD w a v) ?_⟩;cases p with
 | none=>exact .inl rfl
 | some x=>exact .inr (fun he=>h (by simpa[blk,Value.ownBlock] using he.symm))
structure SS (w W:World) (B0 r q b9:Nat) (kp:Option Addr) (n kc:Nat) (KC:List Value) (vp:Option Addr) (m vc:Nat) (VC:List Value):Prop where
 K:Kept w W
 R:C4 W r 121 (.bool false) (.slice none 0 0) (.slice none 0 0) (.slice none 0 0)
 Q:C3 W q 77 (.string ⟨#[]⟩) (.int .i64 0) (.int .i64 0)
 OK:Own W B0 9 1 kp n kc KC
 OV:Own W B0 77 3 vp m vc VC
 base:w.heap.size<=B0
 hr:r<B0
 hq:q<B0
 h9:B0<=b9
 wr:w.heap.size<=r
 wq:w.heap.size<=q
variable {r q b9 kc m vc:Nat}{kp vp:Option Addr}
theorem SS.kept{B0:Nat}{KC:List Value}{VC:List Value}(s:SS w W B0 r q b9 kp n kc KC vp m vc VC)(k:Kept W W'):SS w W' B0 r q b9 kp n kc KC vp m vc VC:=
 ⟨s.K.trans k,s.R.kept k,s.Q.kept k,s.OK.kept k,s.OV.kept k,s.base,s.hr,s.hq,s.h9,s.wr,s.wq⟩
theorem SS.keys{B0:Nat}{KC:List Value}{VC:List Value}(s:SS w W B0 r q b9 kp n kc KC vp m vc VC)(g:W.grownBy W' (blk kp)){kp':Option Addr}{n' aY:Nat}{KC':List Value}(o:Own W' B0 9 1 kp' n' aY KC'):SS w W' B0 r q b9 kp' n' aY KC' vp m vc VC:=
 ⟨yB s.K s.OK s.base g,s.R.grown g (s.OK.jw (.inl s.hr)),s.Q.grown g (s.OK.jw (.inl s.hq)),o,s.OV.grown s.OK (by decide) g,s.base,s.hr,s.hq,s.h9,s.wr,s.wq⟩
theorem SS.Xd{B0:Nat}{KC:List Value}{VC:List Value}(s:SS w W B0 r q b9 kp n kc KC vp m vc VC)(g:W.grownBy W' (blk vp)){bO:Option Addr}{m' eO:Nat}{Xe:List Value}(o:Own W' B0 77 3 bO m' eO Xe):SS w W' B0 r q b9 kp n kc KC bO m' eO Xe:=
 ⟨yB s.K s.OV s.base g,s.R.grown g (s.OV.jw (.inl s.hr)),s.Q.grown g (s.OV.jw (.inl s.hq)),s.OK.grown s.OV (by decide) g,o,s.base,s.hr,s.hq,s.h9,s.wr,s.wq⟩
theorem SS.vals{B0:Nat}{KC:List Value}{VC:List Value}(s:SS w W B0 r q b9 kp n kc KC vp m vc VC)(k:Kept W W')(h:B0<=W.heap.size){bO:Option Addr}{m' eO:Nat}{Xe:List Value}(o:Own W' W.heap.size 77 3 bO m' eO Xe):SS w W' B0 r q b9 kp n kc KC bO m' eO Xe:=
 have s':=s.kept k
 ⟨s'.K,s'.R,s'.Q,s'.OK,o.mono h,s.base,s.hr,s.hq,s.h9,s.wr,s.wq⟩
theorem SS.store{B0:Nat}{KC:List Value}{VC:List Value}(s:SS w W B0 r q b9 kp n kc KC vp m vc VC){a0 a1 a2 a3:Value}(x:C4 W b9 121 a0 a1 a2 a3)(j:Nat)(v:Value):SS w (W.setCell ⟨b9,j,none⟩ v) B0 r q b9 kp n kc KC vp m vc VC:=
 have h1:=s.hr
 have h2:=s.hq
 have h3:=s.h9
 have h4:=s.base
 ⟨s.K.set (show w.heap.size<=b9 by omega) v,s.R.far _ _ (show r≠b9 by omega),s.Q.far _ _ (show q≠b9 by omega),s.OK.yC _ _ (x.own_ne s.OK (by decide)),s.OV.yC _ _ (x.own_ne s.OV (by decide)),s.base,s.hr,s.hq,s.h9,s.wr,s.wq⟩
theorem C4.set1(k:C4 w b t a0 a1 a2 a3)(v:Value):C4 (w.setCell ⟨b,1,none⟩ v) b t a0 v a2 a3:=⟨by rw[heap_setCell_same w b 1 _ _ _ k.out];rfl⟩
theorem C4.set2(k:C4 w b t a0 a1 a2 a3)(v:Value):C4 (w.setCell ⟨b,2,none⟩ v) b t a0 a1 v a3:=⟨by rw[heap_setCell_same w b 2 _ _ _ k.out];rfl⟩
theorem C4.ui(k:C4 w b t a0 a1 a2 a3)(v:Value):C4 (w.setCell ⟨b,3,none⟩ v) b t a0 a1 a2 v:=⟨by rw[heap_setCell_same w b 3 _ _ _ k.out];rfl⟩
theorem size_set(w:World)(a:Addr)(v:Value):(w.setCell a v).heap.size=w.heap.size:=by simp[World.setCell]
theorem SS.done{B0:Nat}{KC:List Value}{VC:List Value}(s:SS w W B0 r q b9 kp n kc KC vp m vc VC)(hrq:r≠q)(a0 a1 a2 a3 v0 v1 v2:Value) :
  (((((((W.setCell ⟨r,0,none⟩ a0).setCell ⟨r,1,none⟩ a1).setCell ⟨r,2,none⟩ a2).setCell ⟨r,3,none⟩ a3).setCell ⟨q,0,none⟩ v0).setCell ⟨q,1,none⟩ v1).setCell ⟨q,2,none⟩ v2).heap[r]? = some (.cells #[a0,a1,a2,a3] 121)/\(((((((W.setCell ⟨r,0,none⟩ a0).setCell ⟨r,1,none⟩ a1).setCell ⟨r,2,none⟩ a2).setCell ⟨r,3,none⟩ a3).setCell ⟨q,0,none⟩ v0).setCell ⟨q,1,none⟩ v1).setCell ⟨q,2,none⟩ v2).heap[q]? = some (.cells #[v0,v1,v2] 77) /\
  Own (((((((W.setCell ⟨r,0,none⟩ a0).setCell ⟨r,1,none⟩ a1).setCell ⟨r,2,none⟩ a2).setCell ⟨r,3,none⟩ a3).setCell ⟨q,0,none⟩ v0).setCell ⟨q,1,none⟩ v1).setCell ⟨q,2,none⟩ v2) B0 9 1 kp n kc KC/\Own (((((((W.setCell ⟨r,0,none⟩ a0).setCell ⟨r,1,none⟩ a1).setCell ⟨r,2,none⟩ a2).setCell ⟨r,3,none⟩ a3).setCell ⟨q,0,none⟩ v0).setCell ⟨q,1,none⟩ v1).setCell ⟨q,2,none⟩ v2) B0 77 3 vp m vc VC/\Kept w (((((((W.setCell ⟨r,0,none⟩ a0).setCell ⟨r,1,none⟩ a1).setCell ⟨r,2,none⟩ a2).setCell ⟨r,3,none⟩ a3).setCell ⟨q,0,none⟩ v0).setCell ⟨q,1,none⟩ v1).setCell ⟨q,2,none⟩ v2):=by
 have hR:=(aD s.R.out a0 a1 a2 a3).2.2.2.2;have Vj:((((W.setCell ⟨r,0,none⟩ a0).setCell ⟨r,1,none⟩ a1).setCell ⟨r,2,none⟩ a2).setCell ⟨r,3,none⟩ a3).heap[q]? = _:=(aG W (Ne.symm hrq) a0 a1 a2 a3).trans s.Q.out;exact⟨(uA _ hrq v0 v1 v2).trans hR,(dw Vj v0 v1 v2).2.2.2,(s.OK.bS s.hr _ _ _ _).Aa s.hq _ _ _,(s.OV.bS s.hr _ _ _ _).Aa s.hq _ _ _,(s.K.bS s.wr _ _ _ _).Aa s.wq _ _ _⟩
variable {l:Bool}{ip:Option Addr}{ni ic:Nat}{vs:List Vl}
theorem RH(hk:Rw w 1 kp n kc (dA ks))(hv:Rw w 3 vp n vc (dQ vs))(hn:n<=99999)(key:ByteArray)(v:Vl)(hs:gG key ks=false):
 Calls Tryz.prog 93 #[.agg #[.bool l,.slice kp n kc,.slice vp n vc,.slice ip ni ic],.string key,.agg #[.string v.d,.int .i64 v.p,.int .i64 v.l]] w fun e w'=>∃ kp' aY bO eO,e=.returned (.tuple #[.agg #[.bool true,.slice kp' (n+1) aY,.slice bO (n+1) eO,.slice none 0 0],.agg #[.string ⟨#[]⟩,.int .i64 (-1),.int .i64 0],.bool false])/\Own w' w.heap.size 9 1 kp' (n+1) aY (dA (ins ks (bP key ks) key))/\Own w' w.heap.size 77 3 bO (n+1) eO (dQ (ins vs (bP key ks) v))/\Kept w w':=by
  obtain⟨d,p,ln⟩:=v;have hkl:ks.length=n:=by have:=hk.len;rw[iK,aay]at this;exact this
  have hvl:vs.length=n:=by have:=hv.len;rw[iL]at this;omega
  have HL:Hid (∀ W,Kept w W->Calls Tryz.prog 113 #[.agg #[.bool l,.slice kp n kc,.slice vp n vc,.slice ip ni ic]] W fun e w'=>∃ kp' aY bO,e=.returned (.agg #[.bool true,.slice kp' n aY,.slice bO n n,.slice none 0 0])/\Own w' W.heap.size 9 1 kp' n aY (dA ks)/\Own w' W.heap.size 77 3 bO n n (dQ vs)/\Kept W w'):=fun W hW=>wm (hW.rw hk) (hW.rw hv) (eQ _) (fQ _) (by omega)
  have hi:bP key ks<=n:=by rw[<- hkl];exact kN _ _
  have HF:Hid (∀ (W:World) (p:Option Addr) (c:Nat),Rw W 1 p n c (dA ks)->Calls Tryz.prog 64 #[.slice p n c,.string key] W fun e w'=>e=.returned (.tuple #[.int .i64 (bP key ks:Nat),.bool false])/\w'=W):=fun W p c h=>by have:=jO h (by omega) key;rwa [hs]at this
  generalize hI:bP key ks=i at *;have HK:Hid (dA (ins ks i key)=(dA ks).take i++Value.string key :: (dA ks).drop i):=(RF ks i key).symm;have HV:Hid (dQ (ins vs i ⟨d,p,ln⟩)=(dQ vs).take (i*3)++[.string d,.int .i64 p,.int .i64 ln]++(dQ vs).drop (i*3)):=(RG vs i ⟨d,p,ln⟩).symm;have H1:Hid (∀ u∈dA ks,u.oneCell'=true):=eQ _;have H2:Hid (∀ u∈dQ vs,u.oneCell'=true):=fQ _;have H3:Hid (∀ u∈[Value.string d,Value.int .i64 p,Value.int .i64 ln],u.oneCell'=true):=Vl.one ⟨d,p,ln⟩;obtain⟨oA,GZ⟩:∃ o:Obj,o=.cells #[.bool l,.slice kp n kc,.slice vp n vc,.slice ip ni ic] 121:=⟨_,rfl⟩;obtain⟨oB,Nr⟩:∃ o:Obj,o=.cells #[.string d,.int .i64 p,.int .i64 ln] 77:=⟨_,rfl⟩;obtain⟨oC,Xf⟩:∃ o:Obj,o=.cells #[.bool false,.slice none 0 0,.slice none 0 0,.slice none 0 0] 121:=⟨_,rfl⟩;obtain⟨oD,LM⟩:∃ o:Obj,o=.cells #[.string ⟨#[]⟩,.int .i64 0,.int .i64 0] 77:=⟨_,rfl⟩;have K0:Kept w ((((w.alloc oA).alloc oB).alloc oC).alloc oD):=((((Kept.refl w).alloc _).alloc _).alloc _).alloc _;have S0:((((w.alloc oA).alloc oB).alloc oC).alloc oD).heap.size=w.heap.size+4:=by rw[size_alloc,size_alloc,size_alloc,size_alloc]
  have B0:C3 ((((w.alloc oA).alloc oB).alloc oC).alloc oD) (w.heap.size+1) 77 (.string d) (.int .i64 p) (.int .i64 ln):=by
    subst Nr;rw[<- size_alloc w oA];exact (C3.alloc _ 77 _ _ _).kept (((Kept.refl _).alloc _).alloc _)
  have R0:C4 ((((w.alloc oA).alloc oB).alloc oC).alloc oD) (w.heap.size+1+1) 121 (.bool false) (.slice none 0 0) (.slice none 0 0) (.slice none 0 0):=by
    subst Xf;rw[show w.heap.size+1+1=((w.alloc oA).alloc oB).heap.size by rw[size_alloc,size_alloc]];exact (C4.alloc _ 121 _ _ _ _).kept ((Kept.refl _).alloc _)
  have Q0:C3 ((((w.alloc oA).alloc oB).alloc oC).alloc oD) (w.heap.size+1+1+1) 77 (.string ⟨#[]⟩) (.int .i64 0) (.int .i64 0):=by
    subst LM;rw[show w.heap.size+1+1+1=(((w.alloc oA).alloc oB).alloc oC).heap.size by rw[size_alloc,size_alloc,size_alloc]];exact C3.alloc _ 77 _ _ _
  subst GZ;subst Nr;subst Xf;subst LM;clear hk hv hkl hvl;go_enter Tryz.func93,Tryz.ntmps93;go_wp2_with (first
    | (go_at_call 113
       (with_reducible refine (HL.out _ K0).mono ?_)
       rintro e v1 ⟨ja,fT,nE,rfl,O1,O2,k1⟩
       rw[S0]at O1 O2
       have S1:=k1.size
       rw[S0]at S1
       have s1:SS w v1 (w.heap.size+4) (w.heap.size+1+1) (w.heap.size+1+1+1) v1.heap.size ja n fT (dA ks) nE n n (dQ vs):=⟨K0.trans k1,R0.kept k1,Q0.kept k1,O1,O2,by omega,by omega,by omega,S1,by omega,by omega⟩
       have b1:=B0.kept k1
       clear B0 R0 Q0 K0 HL S0 k1 O1 O2
       have x1:=C4.alloc v1 121 (.bool true) (.slice ja n fT) (.slice nE n n) (.slice none 0 0)
       have k2:=(Kept.refl v1).alloc (.cells #[.bool true,.slice ja n fT,.slice nE n n,.slice none 0 0] 121)
       have s2:=s1.kept k2
       have b2:=b1.kept k2
       have z2:=size_alloc v1 (.cells #[.bool true,.slice ja n fT,.slice nE n n,.slice none 0 0] 121)
       clear k2 s1 b1)
    | (go_at_call 64
       (with_reducible refine (HF.out _ _ _ s2.OK.rw).mono ?_)
       rintro e v2 ⟨rfl,hv2⟩
       rw[hv2]
       clear hv2 HF
       have hV:=heap_alloc_new (v1.alloc (.cells #[.bool true,.slice ja n fT,.slice nE n n,.slice none 0 0] 121)) (.cells #[.string key] 9)
       have z3:=size_alloc (v1.alloc (.cells #[.bool true,.slice ja n fT,.slice nE n n,.slice none 0 0] 121)) (.cells #[.string key] 9)
       have hH:=s2.OK.head_ne (b:=v1.heap.size+1) (by rw[z2];exact aac _)
       have k3:=(Kept.refl (v1.alloc (.cells #[.bool true,.slice ja n fT,.slice nE n n,.slice none 0 0] 121))).alloc (.cells #[.string key] 9)
       have s3:=s2.kept k3
       have b3:=b2.kept k3
       have x3:=x1.kept k3
       rw[z2]at hV z3
       clear k3 s2 b2 z2)
    | (go_at_call 129
       (with_reducible refine (Nj s3.OK (by rw[z3];omega) i hi (by omega) H1.out _ _ hV hH rfl).mono ?_)
       rintro e v4 ⟨EM,uX,rfl,o4,g4⟩
       rw[<- HK.out]at o4
       have x4:=x3.grown g4 (x3.own_ne s3.OK (by decide))
       have b4:=b3.grown g4 (s3.OK.jw (.inl (by omega)))
       have z4:=g4.size
       rw[z3]at z4
       have s4:=s3.keys g4 o4
       clear s3 x3 b3 g4 o4 z3 hV hH
       have c4:=x4.cs.2.1
       have f4:=x4.fz 1
       have s5:=s4.store x4 1 (.slice EM (n+1) uX)
       have x5:=x4.set1 (.slice EM (n+1) uX)
       have b5:=b4.far ⟨v1.heap.size,1,none⟩ (.slice EM (n+1) uX) (by show w.heap.size+1≠v1.heap.size;omega)
       have z5:(v4.setCell ⟨v1.heap.size,1,none⟩ (.slice EM (n+1) uX)).heap.size=v4.heap.size:=size_set _ _ _
       clear s4 b4
       have hV2:=heap_alloc_new (v4.setCell ⟨v1.heap.size,1,none⟩ (.slice EM (n+1) uX)) (.cells #[.string d,.int .i64 p,.int .i64 ln] 77)
       have z6:=size_alloc (v4.setCell ⟨v1.heap.size,1,none⟩ (.slice EM (n+1) uX)) (.cells #[.string d,.int .i64 p,.int .i64 ln] 77)
       have k6:=(Kept.refl (v4.setCell ⟨v1.heap.size,1,none⟩ (.slice EM (n+1) uX))).alloc (.cells #[.string d,.int .i64 p,.int .i64 ln] 77)
       obtain⟨e0,e1,e2⟩:=b5.cs
       have e3:=x5.cs.2.2.1
       have s6:=s5.kept k6
       have x6:=x5.kept k6
       rw[z5]at hV2 z6
       clear s5 x5 k6 z5 b5)
    | (go_at_call 130
       (with_reducible refine (Nl s6.OV i hi (by omega) H2.out _ [.string d,.int .i64 p,.int .i64 ln] rfl hV2 H3.out).mono ?_)
       rintro e v7 ⟨RI,RJ,rfl,o7,k7⟩
       rw[<- HV.out]at o7
       have x7:=x6.kept k7
       have s7:=s6.vals k7 (by rw[z6];omega) o7
       clear s6 x6 o7 k7 hV2 z6
       have c7:=x7.cs.2.2.1
       have f7:=x7.fz 2
       have s8:=s7.store x7 2 (.slice RI (n+1) RJ)
       have x8:=x7.set2 (.slice RI (n+1) RJ)
       clear s7 x7))
  generalize hW8:v7.setCell ⟨v1.heap.size,2,none⟩ (.slice RI (n+1) RJ)=W8 at *;clear hW8 c4 f4 x4 e0 e1 e2 e3 c7 f7;have hne1:¬ (v1.heap.size=w.heap.size+1+1):=by omega
  have hne2:¬ (v1.heap.size=w.heap.size+1+1+1):=by omega
  have x8:=x8.drew;have s8:=s8.kept (Kept.refl W8).drew;obtain⟨c0,c1,c2,c3⟩:=x8.cs;go_region_with (first
    | (go_at_call 114
       (with_reducible refine (uB _).mono ?_)
       rintro e v9 ⟨rfl,k9⟩
       have x9:=x8.kept k9
       have s9:=s8.kept k9
       clear x8 s8
       obtain⟨d0,d1,d2,d3⟩:=x9.cs
       obtain⟨⟨g0,f0⟩,⟨g1,f1⟩,⟨g2,f2⟩,⟨g3,f3⟩,hR⟩:=aD s9.R.out (.bool true) (.slice EM (n+1) uX) (.slice RI (n+1) RJ) (.slice none 0 0)
       have Vj:((((v9.setCell ⟨(w.heap.size+1+1),0,none⟩ (.bool true)).setCell ⟨(w.heap.size+1+1),1,none⟩ (.slice EM (n+1) uX)).setCell ⟨(w.heap.size+1+1),2,none⟩ (.slice RI (n+1) RJ)).setCell ⟨(w.heap.size+1+1),3,none⟩ (.slice none 0 0)).heap[w.heap.size+1+1+1]? = _:=(aG v9 (by omega) _ _ _ _).trans s9.Q.out
       obtain⟨⟨q0,y0⟩,⟨q1,y1⟩,⟨q2,y2⟩,hQ⟩:=dw Vj (.string ⟨#[]⟩) (.int .i64 (-1)) (.int .i64 0)))
  all_goals
    obtain⟨F1,F2,F3,F4,F5⟩:=s9.done (by omega) (.bool true) (.slice EM (n+1) uX) (.slice RI (n+1) RJ) (.slice none 0 0) (.string ⟨#[]⟩) (.int .i64 (-1)) (.int .i64 0)
    generalize Zy:(((((((v9.setCell ⟨(w.heap.size+1+1),0,none⟩ (.bool true)).setCell ⟨(w.heap.size+1+1),1,none⟩ (.slice EM (n+1) uX)).setCell ⟨(w.heap.size+1+1),2,none⟩ (.slice RI (n+1) RJ)).setCell ⟨(w.heap.size+1+1),3,none⟩ (.slice none 0 0)).setCell ⟨(w.heap.size+1+1+1),0,none⟩ (.string ⟨#[]⟩)).setCell ⟨(w.heap.size+1+1+1),1,none⟩ (.int .i64 (-1))).setCell ⟨(w.heap.size+1+1+1),2,none⟩ (.int .i64 0))=WF at F1 F2 F3 F4 F5 ⊢
    clear Zy x9 s9 g0 f0 g1 f1 g2 f2 g3 f3 hR Vj q0 y0 q1 y1 q2 y2 hQ
    go_wp2
    refine bodyPost_ret (v:=.tuple #[.agg #[.bool true,.slice EM (n+1) uX,.slice RI (n+1) RJ,.slice none 0 0],.agg #[.string ⟨#[]⟩,.int .i64 (-1),.int .i64 0],.bool false]) ?_ rfl ⟨_,_,_,_,rfl,F3.mono (by omega),F4.mono (by omega),F5⟩
    exact rJ (p:=6) (q:=7) (u:=8) (ty:=121) (tz:=77) rfl _ _ (w.heap.size+1+1) (w.heap.size+1+1+1) 121 77 #[.bool true,.slice EM (n+1) uX,.slice RI (n+1) RJ,.slice none 0 0] #[.string ⟨#[]⟩,.int .i64 (-1),.int .i64 0] (0,0) (0,0) _ _ rfl F1 Tryz.underlying121 rfl aN rfl F2 Tryz.underlying77 rfl iJ
theorem Own.jU(k:Own w B e sz p n c cs)(h:0<n):∃ g,p=some ⟨g,0,none⟩:=by
 rcases k.cases with⟨_,h0,_⟩|⟨g,cur,rfl,_⟩
 ·omega
 ·exact⟨g,rfl⟩
variable {g:Nat}
theorem Own.cell(k:Own w B e sz (some ⟨g,0,none⟩) n c cs){j:Nat}{u:Value}(h:cs[j]? = some u):w.cell? ⟨g,j,none⟩=some u:=by
 rcases k.rw.out with⟨hx,_⟩|⟨b,off,hx,hc⟩
 ·cases hx
 ·injection hx with hx
  injection hx with h1 h2
  subst h1;subst h2;have:=hc j u h;rwa [aaj]at this
theorem Own.fz(k:Own w B e sz (some ⟨g,0,none⟩) n c cs)(j:Nat):w.frozen? ⟨g,j,none⟩=false:=by
 rcases k.cases with⟨hx,_⟩|⟨g',cur,hx,_,_,hg,_⟩
 ·cases hx
 ·injection hx with hx
  injection hx with hx
  subst hx;exact frozen_of_row w g j _ _ hg
theorem Own.val(k:Own w B 77 3 (some ⟨g,0,none⟩) n c (dQ vs)){i:Nat}{v:Vl}(h:vs[i]? = some v) :
  w.cell? ⟨g,i*3,none⟩=some (.string v.d)/\w.cell? ⟨g,i*3+1,none⟩=some (.int .i64 v.p)/\w.cell? ⟨g,i*3+2,none⟩=some (.int .i64 v.l):=by
 obtain⟨a,b,d⟩:=sw h;exact⟨k.cell a,k.cell b,k.cell d⟩
variable {i:Nat}
theorem RL(h:i<vs.length)(v:Vl):(((dQ vs).set (i*3) (.string v.d)).set (i*3+1) (.int .i64 v.p)).set (i*3+2) (.int .i64 v.l)=dQ (vs.set i v):=by
 have e:dQ vs=dQ (vs.take i)++(vs[i].cells++dQ (vs.drop (i+1))):=by
  rw[<- jZ,List.getElem_cons_drop h,<- ma,aax]
 have e2:dQ (vs.set i v)=dQ (vs.take i)++(v.cells++dQ (vs.drop (i+1))):=by
  rw[<- jZ,<- ma,List.set_eq_take_append_cons_drop,aao h]
 have hn:(dQ (vs.take i)).length=i*3:=by rw[iL,aam];omega
 rw[e,e2,List.set_append_right _ _ (by omega),List.set_append_right _ _ (by omega),List.set_append_right _ _ (by omega),hn,Nat.sub_self,show i*3+1-i*3=1 by omega,show i*3+2-i*3=2 by omega];simp[Vl.cells]
theorem Own.put(k:Own w B 77 3 (some ⟨g,0,none⟩) n c (dQ vs)){i:Nat}{o:Vl}(h:vs[i]? = some o)(v:Vl) :
  (w.cell? ⟨g,i*3,none⟩=some (.string o.d)/\w.frozen? ⟨g,i*3,none⟩=false) /\
  ((w.setCell ⟨g,i*3,none⟩ (.string v.d)).cell? ⟨g,i*3+1,none⟩=some (.int .i64 o.p)/\(w.setCell ⟨g,i*3,none⟩ (.string v.d)).frozen? ⟨g,i*3+1,none⟩=false) /\
  (((w.setCell ⟨g,i*3,none⟩ (.string v.d)).setCell ⟨g,i*3+1,none⟩ (.int .i64 v.p)).cell? ⟨g,i*3+2,none⟩=some (.int .i64 o.l)/\((w.setCell ⟨g,i*3,none⟩ (.string v.d)).setCell ⟨g,i*3+1,none⟩ (.int .i64 v.p)).frozen? ⟨g,i*3+2,none⟩=false) /\
  Own (((w.setCell ⟨g,i*3,none⟩ (.string v.d)).setCell ⟨g,i*3+1,none⟩ (.int .i64 v.p)).setCell ⟨g,i*3+2,none⟩ (.int .i64 v.l)) B 77 3 (some ⟨g,0,none⟩) n c (dQ (vs.set i v)) /\
  w.grownBy (((w.setCell ⟨g,i*3,none⟩ (.string v.d)).setCell ⟨g,i*3+1,none⟩ (.int .i64 v.p)).setCell ⟨g,i*3+2,none⟩ (.int .i64 v.l)) (some g):=by
 have hi:=(aal.1 h).1;obtain⟨a,b,d⟩:=sw h;obtain⟨k1,g1⟩:=k.out.stored (i*3) (.string v.d);obtain⟨k2,g2⟩:=k1.stored (i*3+1) (.int .i64 v.p);obtain⟨k3,g3⟩:=k2.stored (i*3+2) (.int .i64 v.l);have o1:Own _ B 77 3 (some ⟨g,0,none⟩) n c _:=⟨k1⟩;have o2:Own _ B 77 3 (some ⟨g,0,none⟩) n c _:=⟨k2⟩;rw[RL hi]at k3;refine⟨⟨k.cell a,k.fz _⟩,⟨o1.cell ?_,o1.fz _⟩,⟨o2.cell ?_,o2.fz _⟩,⟨k3⟩,?_⟩
 ·rw[List.getElem?_set_ne (by omega)];exact b
 ·rw[List.getElem?_set_ne (by omega),List.getElem?_set_ne (by omega)];exact d
 ·exact⟨(g3.os.trans g2.os).trans g1.os,(g3.tape.trans g2.tape).trans g1.tape,(g3.output.trans g2.output).trans g1.output,aad g1.size (aad g2.size g3.size),fun j hj hne=>(g3.block j (aas hj (aad g1.size g2.size)) hne).trans ((g2.block j (aas hj g1.size) hne).trans (g1.block j hj hne))⟩
theorem RN(hk:Rw w 1 kp n kc (dA ks))(hv:Rw w 3 vp n vc (dQ vs))(hn:n<=99999)(key:ByteArray)(v:Vl)(hs:gG key ks=true):
 Calls Tryz.prog 93 #[.agg #[.bool l,.slice kp n kc,.slice vp n vc,.slice ip ni ic],.string key,.agg #[.string v.d,.int .i64 v.p,.int .i64 v.l]] w fun e w'=>∃ kp' aY bO eO o,vs[bP key ks]? = some o/\e=.returned (.tuple #[.agg #[.bool true,.slice kp' n aY,.slice bO n eO,.slice none 0 0],.agg #[.string o.d,.int .i64 o.p,.int .i64 o.l],.bool true])/\Own w' w.heap.size 9 1 kp' n aY (dA ks)/\Own w' w.heap.size 77 3 bO n eO (dQ (vs.set (bP key ks) v))/\Kept w w':=by
  obtain⟨d,p,ln⟩:=v;have hkl:ks.length=n:=by have:=hk.len;rw[iK,aay]at this;exact this
  have hvl:vs.length=n:=by have:=hv.len;rw[iL]at this;omega
  have HL:Hid (∀ W,Kept w W->Calls Tryz.prog 113 #[.agg #[.bool l,.slice kp n kc,.slice vp n vc,.slice ip ni ic]] W fun e w'=>∃ kp' aY bO,e=.returned (.agg #[.bool true,.slice kp' n aY,.slice bO n n,.slice none 0 0])/\Own w' W.heap.size 9 1 kp' n aY (dA ks)/\Own w' W.heap.size 77 3 bO n n (dQ vs)/\Kept W w'):=fun W hW=>wm (hW.rw hk) (hW.rw hv) (eQ _) (fQ _) (by omega)
  have hi:bP key ks<n:=by rw[<- hkl];exact yA hs
  have HF:Hid (∀ (W:World) (p:Option Addr) (c:Nat),Rw W 1 p n c (dA ks)->Calls Tryz.prog 64 #[.slice p n c,.string key] W fun e w'=>e=.returned (.tuple #[.int .i64 (bP key ks:Nat),.bool true])/\w'=W):=fun W p c h=>by have:=jO h (by omega) key;rwa [hs]at this
  generalize hI:bP key ks=i at *;obtain⟨o,ho⟩:∃ o,vs[i]? = some o:=⟨_,aae (by omega)⟩;obtain⟨oA,GZ⟩:∃ o:Obj,o=.cells #[.bool l,.slice kp n kc,.slice vp n vc,.slice ip ni ic] 121:=⟨_,rfl⟩;obtain⟨oB,Nr⟩:∃ o:Obj,o=.cells #[.string d,.int .i64 p,.int .i64 ln] 77:=⟨_,rfl⟩;obtain⟨oC,Xf⟩:∃ o:Obj,o=.cells #[.bool false,.slice none 0 0,.slice none 0 0,.slice none 0 0] 121:=⟨_,rfl⟩;obtain⟨oD,LM⟩:∃ o:Obj,o=.cells #[.string ⟨#[]⟩,.int .i64 0,.int .i64 0] 77:=⟨_,rfl⟩;have K0:Kept w ((((w.alloc oA).alloc oB).alloc oC).alloc oD):=((((Kept.refl w).alloc _).alloc _).alloc _).alloc _;have S0:((((w.alloc oA).alloc oB).alloc oC).alloc oD).heap.size=w.heap.size+4:=by rw[size_alloc,size_alloc,size_alloc,size_alloc]
  have B0:C3 ((((w.alloc oA).alloc oB).alloc oC).alloc oD) (w.heap.size+1) 77 (.string d) (.int .i64 p) (.int .i64 ln):=by
    subst Nr;rw[<- size_alloc w oA];exact (C3.alloc _ 77 _ _ _).kept (((Kept.refl _).alloc _).alloc _)
  have R0:C4 ((((w.alloc oA).alloc oB).alloc oC).alloc oD) (w.heap.size+1+1) 121 (.bool false) (.slice none 0 0) (.slice none 0 0) (.slice none 0 0):=by
    subst Xf;rw[show w.heap.size+1+1=((w.alloc oA).alloc oB).heap.size by rw[size_alloc,size_alloc]];exact (C4.alloc _ 121 _ _ _ _).kept ((Kept.refl _).alloc _)
  have Q0:C3 ((((w.alloc oA).alloc oB).alloc oC).alloc oD) (w.heap.size+1+1+1) 77 (.string ⟨#[]⟩) (.int .i64 0) (.int .i64 0):=by
    subst LM;rw[show w.heap.size+1+1+1=(((w.alloc oA).alloc oB).alloc oC).heap.size by rw[size_alloc,size_alloc,size_alloc]];exact C3.alloc _ 77 _ _ _
  subst GZ;subst Nr;subst Xf;subst LM;clear hk hv hkl hvl;go_enter Tryz.func93,Tryz.ntmps93;go_wp2_with (first
    | (go_at_call 113
       (with_reducible refine (HL.out _ K0).mono ?_)
       rintro e v1 ⟨ja,fT,nE,rfl,O1,O2,k1⟩
       rw[S0]at O1 O2
       have S1:=k1.size
       rw[S0]at S1
       have s1:SS w v1 (w.heap.size+4) (w.heap.size+1+1) (w.heap.size+1+1+1) v1.heap.size ja n fT (dA ks) nE n n (dQ vs):=⟨K0.trans k1,R0.kept k1,Q0.kept k1,O1,O2,by omega,by omega,by omega,S1,by omega,by omega⟩
       have b1:=B0.kept k1
       clear B0 R0 Q0 K0 HL S0 k1 O1 O2
       have x1:=C4.alloc v1 121 (.bool true) (.slice ja n fT) (.slice nE n n) (.slice none 0 0)
       have k2:=(Kept.refl v1).alloc (.cells #[.bool true,.slice ja n fT,.slice nE n n,.slice none 0 0] 121)
       have s2:=s1.kept k2
       have b2:=b1.kept k2
       have z2:=size_alloc v1 (.cells #[.bool true,.slice ja n fT,.slice nE n n,.slice none 0 0] 121)
       clear k2 s1 b1)
    | (go_at_call 64
       (with_reducible refine (HF.out _ _ _ s2.OK.rw).mono ?_)
       rintro e v2 ⟨rfl,hv2⟩
       rw[hv2]
       clear hv2 HF
       obtain⟨g,rfl⟩:=s2.OV.jU (by omega)
       obtain⟨t0,t1,t2⟩:=s2.OV.val ho
       have hgl:g<v1.heap.size+1:=by have:=(s2.OV.out.lt g rfl).2;rwa [z2]at this
       obtain⟨⟨r0,u0⟩,⟨r1,u1⟩,⟨r2,u2⟩,o4,g4⟩:=s2.OV.put ho ⟨d,p,ln⟩
       have a0:∀ o',((v1.alloc (.cells #[.bool true,.slice ja n fT,.slice (some ⟨g,0,none⟩) n n,.slice none 0 0] 121)).alloc o').cell? ⟨g,i*3,none⟩=some (.string o.d):=fun o'=>((Kept.refl _).alloc o').cell r0
       have a1:∀ o',(((v1.alloc (.cells #[.bool true,.slice ja n fT,.slice (some ⟨g,0,none⟩) n n,.slice none 0 0] 121)).setCell ⟨g,i*3,none⟩ (.string d)).alloc o').cell? ⟨g,i*3+1,none⟩=some (.int .i64 o.p):=fun o'=>((Kept.refl _).alloc o').cell r1
       have a2:∀ o',((((v1.alloc (.cells #[.bool true,.slice ja n fT,.slice (some ⟨g,0,none⟩) n n,.slice none 0 0] 121)).setCell ⟨g,i*3,none⟩ (.string d)).setCell ⟨g,i*3+1,none⟩ (.int .i64 p)).alloc o').cell? ⟨g,i*3+2,none⟩=some (.int .i64 o.l):=fun o'=>((Kept.refl _).alloc o').cell r2
       have a3:∀ o',((v1.alloc (.cells #[.bool true,.slice ja n fT,.slice (some ⟨g,0,none⟩) n n,.slice none 0 0] 121)).alloc o').frozen? ⟨g,i*3,none⟩=false:=fun o'=>(s2.OV.kept ((Kept.refl _).alloc o')).fz _
       have a4:∀ o',(((v1.alloc (.cells #[.bool true,.slice ja n fT,.slice (some ⟨g,0,none⟩) n n,.slice none 0 0] 121)).setCell ⟨g,i*3,none⟩ (.string d)).alloc o').frozen? ⟨g,i*3+1,none⟩=false:=fun o'=>(Own.kept ⟨(s2.OV.out.stored (i*3) (.string d)).1⟩ ((Kept.refl _).alloc o')).fz _
       have a5:∀ o',((((v1.alloc (.cells #[.bool true,.slice ja n fT,.slice (some ⟨g,0,none⟩) n n,.slice none 0 0] 121)).setCell ⟨g,i*3,none⟩ (.string d)).setCell ⟨g,i*3+1,none⟩ (.int .i64 p)).alloc o').frozen? ⟨g,i*3+2,none⟩=false:=fun o'=>(Own.kept ⟨((s2.OV.out.stored (i*3) (.string d)).1.stored (i*3+1) (.int .i64 p)).1⟩ ((Kept.refl _).alloc o')).fz _
       have x4:=(x1.grown g4 (x1.own_ne s2.OV (by decide))).kept ((Kept.refl _).alloc (.cells #[.string o.d,.int .i64 o.p,.int .i64 o.l] 77))
       have y4:=C3.alloc ((((v1.alloc (.cells #[.bool true,.slice ja n fT,.slice (some ⟨g,0,none⟩) n n,.slice none 0 0] 121)).setCell ⟨g,i*3,none⟩ (.string d)).setCell ⟨g,i*3+1,none⟩ (.int .i64 p)).setCell ⟨g,i*3+2,none⟩ (.int .i64 ln)) 77 (.string o.d) (.int .i64 o.p) (.int .i64 o.l)
       rw[size_set,size_set,size_set,z2]at y4
       have s4:=(s2.Xd g4 o4).kept ((Kept.refl _).alloc (.cells #[.string o.d,.int .i64 o.p,.int .i64 o.l] 77))
       have b3:∀ o',C3 ((v1.alloc (.cells #[.bool true,.slice ja n fT,.slice (some ⟨g,0,none⟩) n n,.slice none 0 0] 121)).alloc o') (w.heap.size+1) 77 (.string d) (.int .i64 p) (.int .i64 ln):=fun o'=>b2.kept ((Kept.refl _).alloc o')
       have c0:=fun o'=>(b3 o').cs.1
       have c1:=fun o'=>(b3 o').cs.2.1
       have c2:=fun o'=>(b3 o').cs.2.2
       have x3:∀ o',C4 ((v1.alloc (.cells #[.bool true,.slice ja n fT,.slice (some ⟨g,0,none⟩) n n,.slice none 0 0] 121)).alloc o') v1.heap.size 121 _ _ _ _:=fun o'=>x1.kept ((Kept.refl _).alloc o')
       have d2:=fun o'=>(x3 o').cs.2.2.1
       clear o4 g4 r0 r1 r2 u0 u1 u2))
  generalize hW4:(((((v1.alloc (.cells #[.bool true,.slice ja n fT,.slice (some ⟨g,0,none⟩) n n,.slice none 0 0] 121)).setCell ⟨g,i*3,none⟩ (.string d)).setCell ⟨g,i*3+1,none⟩ (.int .i64 p)).setCell ⟨g,i*3+2,none⟩ (.int .i64 ln)).alloc (.cells #[.string o.d,.int .i64 o.p,.int .i64 o.l] 77))=W4 at x4 y4 s4 ⊢;clear hW4 s2 x3 b3 b2 x1 a0 a1 a2 a3 a4 a5 c0 c1 c2 d2 t0 t1 t2;have s5:=s4;have x5:=x4;have y5:=y4;clear s4 x4 y4;obtain⟨c0,c1,c2,c3⟩:=x5.cs;obtain⟨d0,d1,d2⟩:=y5.cs;obtain⟨⟨g0,f0⟩,⟨g1,f1⟩,⟨g2,f2⟩,⟨g3,f3⟩,hR⟩:=aD s5.R.out (.bool true) (.slice ja n fT) (.slice (some ⟨g,0,none⟩) n n) (.slice none 0 0);have Vj:((((W4.setCell ⟨(w.heap.size+1+1),0,none⟩ (.bool true)).setCell ⟨(w.heap.size+1+1),1,none⟩ (.slice ja n fT)).setCell ⟨(w.heap.size+1+1),2,none⟩ (.slice (some ⟨g,0,none⟩) n n)).setCell ⟨(w.heap.size+1+1),3,none⟩ (.slice none 0 0)).heap[w.heap.size+1+1+1]? = _:=(aG W4 (by omega) _ _ _ _).trans s5.Q.out;obtain⟨⟨q0,y0⟩,⟨q1,y1⟩,⟨q2,y2⟩,hQ⟩:=dw Vj (.string o.d) (.int .i64 o.p) (.int .i64 o.l);go_region;all_goals
    obtain⟨F1,F2,F3,F4,F5⟩:=s5.done (by omega) (.bool true) (.slice ja n fT) (.slice (some ⟨g,0,none⟩) n n) (.slice none 0 0) (.string o.d) (.int .i64 o.p) (.int .i64 o.l)
    generalize Zy:(((((((W4.setCell ⟨(w.heap.size+1+1),0,none⟩ (.bool true)).setCell ⟨(w.heap.size+1+1),1,none⟩ (.slice ja n fT)).setCell ⟨(w.heap.size+1+1),2,none⟩ (.slice (some ⟨g,0,none⟩) n n)).setCell ⟨(w.heap.size+1+1),3,none⟩ (.slice none 0 0)).setCell ⟨(w.heap.size+1+1+1),0,none⟩ (.string o.d)).setCell ⟨(w.heap.size+1+1+1),1,none⟩ (.int .i64 o.p)).setCell ⟨(w.heap.size+1+1+1),2,none⟩ (.int .i64 o.l))=WF at F1 F2 F3 F4 F5 ⊢
    clear Zy x5 s5 y5 g0 f0 g1 f1 g2 f2 g3 f3 hR Vj q0 y0 q1 y1 q2 y2 hQ c0 c1 c2 c3 d0 d1 d2
    go_wp2
    refine bodyPost_ret (v:=.tuple #[.agg #[.bool true,.slice ja n fT,.slice (some ⟨g,0,none⟩) n n,.slice none 0 0],.agg #[.string o.d,.int .i64 o.p,.int .i64 o.l],.bool true]) ?_ rfl ⟨_,_,_,_,o,ho,rfl,(F3.kept (Kept.refl WF).drew).mono (by omega),(F4.kept (Kept.refl WF).drew).mono (by omega),F5.drew⟩
    exact rJ (p:=6) (q:=7) (u:=8) (ty:=121) (tz:=77) rfl _ _ (w.heap.size+1+1) (w.heap.size+1+1+1) 121 77 #[.bool true,.slice ja n fT,.slice (some ⟨g,0,none⟩) n n,.slice none 0 0] #[.string o.d,.int .i64 o.p,.int .i64 o.l] (0,0) (0,0) _ _ rfl F1 Tryz.underlying121 rfl aN rfl F2 Tryz.underlying77 rfl iJ
def jG (ks:List ByteArray) (vs:List Vl) (key:ByteArray):Vl:=if gG key ks=true then (vs[bP key ks]?).getD ⟨⟨#[]⟩,-1,0⟩ else ⟨⟨#[]⟩,-1,0⟩
theorem Dt(hk:Rw w 1 kp n kc (dA ks))(hv:Rw w 3 vp n vc (dQ vs))(hn:n<=99999)(key:ByteArray)(v:Vl):
 Calls Tryz.prog 93 #[.agg #[.bool l,.slice kp n kc,.slice vp n vc,.slice ip ni ic],.string key,.agg #[.string v.d,.int .i64 v.p,.int .i64 v.l]] w fun e w'=>∃ kp' m aY bO eO,e=.returned (.tuple #[.agg #[.bool true,.slice kp' m aY,.slice bO m eO,.slice none 0 0],.agg #[.string (jG ks vs key).d,.int .i64 (jG ks vs key).p,.int .i64 (jG ks vs key).l],.bool (gG key ks)])/\Own w' w.heap.size 9 1 kp' m aY (dA (iA ks key))/\Own w' w.heap.size 77 3 bO m eO (dQ (jr ks vs key v))/\Kept w w':=by
 by_cases hs:gG key ks=true
 ·refine (RN hk hv hn key v hs).mono ?_
  rintro e w' ⟨kp',aY,bO,eO,o,ho,rfl,h1,h2,h3⟩;have e1:jG ks vs key=o:=by unfold jG;rw[aao hs,ho];rfl
  have e2:iA ks key=ks:=by unfold iA;rw[aao hs]
  have e3:jr ks vs key v=vs.set (bP key ks) v:=by unfold jr;rw[aao hs]
  rw[e1,e2,e3,hs];exact⟨_,_,_,_,_,rfl,h1,h2,h3⟩
 ·have hs':gG key ks=false:=by simpa using hs
  refine (RH hk hv hn key v hs').mono ?_;rintro e w' ⟨kp',aY,bO,eO,rfl,h1,h2,h3⟩;have e1:jG ks vs key=⟨⟨#[]⟩,-1,0⟩:=by unfold jG;rw[aai hs]
  have e2:iA ks key=ins ks (bP key ks) key:=by unfold iA;rw[aai hs]
  have e3:jr ks vs key v=ins vs (bP key ks) v:=by unfold jr;rw[aai hs]
  rw[e1,e2,e3,hs'];exact⟨_,_,_,_,_,rfl,h1,h2,h3⟩
def nW (ks:List ByteArray) (key:ByteArray):List ByteArray:=if gG key ks=true then del ks (bP key ks) else ks
def pU (ks:List ByteArray) (vs:List Vl) (key:ByteArray):List Vl:=if gG key ks=true then del vs (bP key ks) else vs
def Ki.cells (x:Ki):List Value:=[.string x.s,.string x.v,.int .i64 x.pg,.int .i64 x.ln]
def BF (l:List Ki):List Value:=l.flatMap Ki.cells
theorem vF(v:Ki)(r:List Ki):BF (v :: r)=v.cells++BF r:=by simp[BF]
theorem wC:∀ vs:List Ki,(BF vs).length=vs.length*4
 | []=>rfl
 | v :: r=>by rw[vF,aah,wC r];simp[Ki.cells];omega
theorem Ic:∀ {vs:List Ki} {i:Nat} {v:Ki},vs[i]? = some v->(BF vs)[i*4]? = some (.string v.s)/\(BF vs)[i*4+1]? = some (.string v.v)/\(BF vs)[i*4+2]? = some (.int .i64 v.pg)/\(BF vs)[i*4+3]? = some (.int .i64 v.ln)
 | [],_,_,h=>by simp at h
 | x :: r,0,v,h=>by simp at h;subst h;rw[vF];simp[Ki.cells]
 | x :: r,i+1,v,h=>by
  have ih:=Ic (vs:=r) (i:=i) (v:=v) (by simpa using h);rw[vF,show (i+1)*4=i*4+1+1+1+1 by omega];simpa[Ki.cells] using ih
def TU (a:List ByteArray×List Vl) (x:Ki):List ByteArray×List Vl:=(iA a.1 (Nq x),jr a.1 a.2 (Nq x) (RD x))
structure Ns (ks:List ByteArray) (vs:List Vl):Prop where
 up:Up ks
 len:vs.length=ks.length
 small:∀ k∈ks,k.size<=64
 ok:∀ v∈vs,BD v
theorem Ie{α:Type}{l:List α}{x y:α}(h:y∈ins l i x):y=x\/y∈l:=by
 unfold ins at h;rcases aav.1 h with h | h
 ·exact .inr (aaJ h)
 ·rcases aaW.1 h with h | h
  ·exact .inl h
  ·exact .inr (aaA h)
theorem Ns.step{a:List ByteArray×List Vl}(h:Ns a.1 a.2)(x:Ki):Ns (TU a x).1 (TU a x).2:=by
 refine⟨Ry h.up _,wB _ _ _ _ h.len,fun k hk=>?_,fun v hv=>?_⟩
 ·change k∈iA a.1 (Nq x) at hk
  unfold iA at hk;split at hk
  ·exact h.small k hk
  ·rcases Ie hk with rfl | hk
   ·exact Kt x
   ·exact h.small k hk
 ·change v∈jr a.1 a.2 (Nq x) (RD x) at hv
  unfold jr at hv;split at hv
  ·rcases List.mem_or_eq_of_mem_set hv with hv | rfl
   ·exact h.ok v hv
   ·exact Ib x
  ·rcases Ie hv with rfl | hv
   ·exact Ib x
   ·exact h.ok v hv
structure Gv (w:World) (p:Option Addr) (n c:Nat) (l:List Ki):Prop where
 out:Rw w 4 p n c (BF l)
theorem Gv.len{l:List Ki}(h:Gv w p n c l):l.length=n:=by
 have:=h.out.len;rw[wC]at this;omega
theorem Gv.at{l:List Ki}(h:Gv w p n c l):(p=none/\n=0/\l=[])\/∃ b off,p=some ⟨b,off,none⟩/\∀ W,Kept w W->∀ i x,l[i]? = some x ->
  W.cell? ⟨b,off+i*4,none⟩=some (.string x.s)/\W.cell? ⟨b,off+i*4+1,none⟩=some (.string x.v)/\W.cell? ⟨b,off+i*4+2,none⟩=some (.int .i64 x.pg)/\W.cell? ⟨b,off+i*4+3,none⟩=some (.int .i64 x.ln):=by
 rcases h.out.out with⟨rfl,rfl⟩|⟨b,off,rfl,hc⟩
 ·exact .inl ⟨rfl,rfl,aaL.1 h.len⟩
 ·refine .inr ⟨b,off,rfl,fun W hW i x hx=>?_⟩
  obtain⟨a0,a1,a2,a3⟩:=Ic hx;have b0:=hW.cell (hc _ _ a0);have b1:=hW.cell (hc _ _ a1);have b2:=hW.cell (hc _ _ a2);have b3:=hW.cell (hc _ _ a3);rw[<- Nat.add_assoc]at b1 b2 b3;exact⟨b0,b1,b2,b3⟩
