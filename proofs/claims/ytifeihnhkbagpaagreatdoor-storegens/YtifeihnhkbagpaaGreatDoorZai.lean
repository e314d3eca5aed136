/- Joined. -/
import Derived.Test.YtifeihnhkbagpaaGreatDoorZah
import Derived.BigQuiet
import Derived.Deep.RegionWith
import Derived.Deep.RegionHeld3
import Derived.Deep.AppendLies
import Derived.Deep.RegionLaw
set_option maxHeartbeats 4000000
set_option maxRecDepth 100000
namespace Go.Proofs.YtifeihnhkbagpaaGreatDoor.D
open ChangeShapes WideShapes ChangeAt RowKit
theorem A9(w:World)(dT sT ty elem:TypeId)(g o dLen dCap:Nat)(a:Addr)(sLen sCap:Nat)(cur:Array Value)(t:TypeId)(cs:List Value)(size n:Nat)(hu:Tryz.prog.underlying dT=some (.slice elem))(hs:(Tryz.prog.info? elem).map (·.size)=some size)(hg:w.heap[g]? = some (.cells cur t (0,0)))(hm:Nat.min sLen dLen=n)(hn:cs.length=n*size)(hsrc:∀ j v,cs[j]? = some v->w.cell? (a.add j)=some v)(hfit:o+cs.length<=cur.size)(h1:∀ v∈cs,v.oneCell'=true) :
    (Builtin.copy_ #[dT,sT] ty #[.slice (some ⟨g,o,none⟩) dLen dCap,.slice (some a) sLen sCap]).run Tryz.prog w =
      .ok (.int .i64 n) (w.setRow g (cur.toList.take o++cs++cur.toList.drop (o+cs.length)).toArray):=by
  have hl:=run_loadCells_list (P:=Tryz.prog) w a cs hsrc;have hst:=run_storeCells_at Tryz.prog g o t cs 0 cur w hg (by simpa using hfit) h1;cases hq:Tryz.prog.info? elem with
  | none=>simp[hq]at hs
  | some i=>
    have hi:i.size=size:=by simpa[hq] using hs
    rw[hn]at hl;simp[Builtin.copy_,run_underlying hu,Builtin.lenOf,Builtin.firstCells,sizeOf,typeInfo,hq,hi,hm,hl,hst];rfl
theorem UI:(Tryz.prog.info? 60).map (·.size)=some 3:=by kernel_rfl
theorem Qx:(Tryz.prog.info? 60).map (fun i=>(i.zero,i.size,i.bytes))=some (some (.agg #[.string ⟨#[]⟩,.bool false,.int .i64 0]),3,32):=by kernel_rfl
def times (n:Nat) (l:List Value):List Value:=(List.replicate n l).flatten
theorem oP(n:Nat)(l:List Value):(times n l).length=n*l.length:=by simp[times]
theorem zQ(a b:Nat)(l:List Value):times (a+b) l=times a l++times b l:=by
 unfold times;rw[<- List.replicate_append_replicate,List.flatten_append]
def blank (s:ByteArray):List Value:=[.string s,.bool false,.int .i64 0]
theorem oQ(s:ByteArray):(blank s).length=3:=rfl
variable {n:Nat}{s:ByteArray}
theorem Jv:∀ v∈times n (blank s),v.oneCell'=true:=by
 intro v hv;simp only[times,List.mem_flatten,List.mem_replicate]at hv;obtain⟨l,⟨_,rfl⟩,hv⟩:=hv;simp only[blank,aaW,List.not_mem_nil,or_false]at hv;rcases hv with rfl | rfl | rfl <;> rfl
structure Laid (s:ByteArray) (g n k:Nat) (w:World):Prop where
 out:∃ cur:Array Value,w.heap[g]? = some (.cells cur 60)/\cur.size=n*3/\cur.toList.take (k*3)=times k (blank s)
 le:k<=n
variable {g m:Nat}{w:World}
theorem Laid.copy{k:Nat}(h:Laid s g n k w)(a:Addr)(dCap sLen sCap ty:Nat)(hm:Nat.min sLen (n-k)=m)(hsrc:∀ j v,(times m (blank s))[j]? = some v->w.cell? (a.add j)=some v) :
  ∃ w',(Builtin.copy_ #[61,61] ty #[.slice (some ⟨g,k*3,none⟩) (n-k) dCap,.slice (some a) sLen sCap]).run Tryz.prog w=.ok (.int .i64 m) w'/\Laid s g n (k+m) w'/\(∀ B,B<=g->Below B w w'):=by
 obtain⟨cur,hg,hs,ht⟩:=h.out;have hml:m<=n-k:=by rw[<- hm];exact Nat.min_le_right _ _
 have hle:=h.le;have hl:(times m (blank s)).length=m*3:=by rw[oP,oQ]
 refine⟨_,A9 w 61 61 ty 60 g (k*3) (n-k) dCap a sLen sCap cur 60 (times m (blank s)) 3 m Tryz.underlying61 UI hg hm hl hsrc (by omega) Jv,⟨⟨_,setRow_heap w g _ _ _ _ hg,?_,?_⟩,by omega⟩,fun B hB=>?_⟩
 ·simp only[List.size_toArray,aah,aam,aaw,Array.length_toList];omega
 ·have e:((k+m)*3)=(cur.toList.take (k*3)++times m (blank s)).length:=by
   simp only[aah,aam,Array.length_toList];omega
  rw[e,List.take_left,ht,zQ]
 ·exact⟨rfl,rfl,rfl,by simp[World.setRow],fun x hx=>setRow_other w g x _ (by omega)⟩
theorem CE(n:Nat)(hn:n<=16384)(s:ByteArray)(b:Nat)(w:World)(hb:w.heap[b]? = some (.cells #[.string s,.bool false,.int .i64 0] 60)):
 Calls Tryz.prog 29 #[.slice (some ⟨b,0,none⟩) 1 1,.int .i64 n] w fun e w'=>e=.returned (.slice (some ⟨w.heap.size,0,none⟩) n n)/\w'.heap[w.heap.size]? = some (.cells (times n (blank s)).toArray 60)/\Kept w w':=by
 obtain⟨i0,hi,hz0,hz1,hz2⟩:=info_parts Qx;obtain⟨w1,mk,ho,hg⟩:=run_makeSlice_full (P:=Tryz.prog) w w.heap.size 61 60 i0 _ 3 Tryz.underlying61 hi hz0 hz1 .i64 .i64 n (by omega) (by rw[hz2];omega) (by unfold maxLen;omega) (aac _);have hk1:Kept w w1:=⟨(Below.refl _ w).grown hg (aac _) (fun _ e=>by cases e)⟩;have hL:Laid s w.heap.size n 0 w1:=by
  rcases ho.2 with⟨e,_⟩|⟨g,cap,cur,e,_,hc,_,_,hs,_⟩
  ·cases e
  ·injection e with e1 _ e3
   injection e1 with e1
   injection e1 with e1
   subst e1 e3;exact⟨⟨cur,hc,hs,by simp[times]⟩,aag _⟩
 have hb1:=hk1.block hb;obtain⟨k0,hk0⟩:∃ k0,Nat.min 1 n=k0:=⟨_,rfl⟩;obtain⟨w2,cp,hL2,hB2⟩:=hL.copy (k:=0) (m:=k0) ⟨b,0,none⟩ n 1 1 3 hk0 (fun j v hv=>by
  have hk:k0<=1:=by rw[<- hk0];exact Nat.min_le_left _ _
  rw[Addr.add_lit,aaj,cell_of_row w1 b _ _ _ _ hb1]
  rcases Nat.le_one_iff_eq_zero_or_eq_one.1 hk with e | e
  ·subst e;simp[times]at hv
  ·subst e;simpa[times,blank] using hv)
 rw[Nat.zero_mul,Nat.sub_zero]at cp;rw[aaj]at hL2;have hk2:Kept w w2:=⟨hk1.out.trans (hB2 _ (aac _))⟩;have hz:k0=0->n=0:=by intro e;rw[e]at hk0;have:Nat.min 1 n=min 1 n:=rfl;omega
 clear hi hz0 hz1 hz2 ho hg hk1 hL hb1 hB2 hk0;have hd:decide ((n:Int)<0)=false:=by simp
 have HZ:Hid (k0=0->n=0):=hz;clear hz;go_enter Tryz.func29,Tryz.ntmps29;go_wp2_with (go_at_call 45;refine (Tryz.bits_Mul 1 n (by omega) (by omega) _).mono ?_;rintro e w' ⟨rfl,hw'⟩;rw[hw'];clear hw';have e1:1*n / 18446744073709551616=0:=(by omega);have e2:1*n % 18446744073709551616=n:=(by omega);rw[e1,e2]);go_loopg [8] (n-k0) (fun q iv wx=>∃ k:Nat,q=n-k/\iv=.int .i64 k/\(k=0->n=0)/\Laid s w.heap.size n k wx/\Kept w wx);case atStart=>exact⟨k0,rfl,rfl,HZ.out,hL2,hk2⟩
 case round=>
  obtain⟨k,hq,rfl,hz,hL,hk⟩:=hrel;have hkn:=hL.le;by_cases hlt:k<n
  ·have hd:decide ((k:Int)<(n:Int))=true:=by simpa using hlt
   have i1:(0:Int)<=(k:Int):=by omega
   have i2:(k:Int)<=(n:Int):=by omega
   obtain⟨m,hm⟩:∃ m,Nat.min k (n-k)=m:=⟨_,rfl⟩;have YR:Laid s w.heap.size n k wr.drew:=⟨hL.out,hL.le⟩;obtain⟨w3,cp3,hL3,hB3⟩:=YR.copy (m:=m) ⟨w.heap.size,0,none⟩ (n-k) k n 3 hm (fun j v hv=>by
    obtain⟨cur,hg,hs,ht⟩:=YR.out
    have hmk:m<=k:=by rw[<- hm];exact Nat.min_le_left _ _
    have hj:j<m*3:=by have:=(aal.1 hv).1;rw[oP,oQ]at this;exact this
    rw[Addr.add_lit,aaj,cell_of_row _ _ _ _ _ _ hg]
    have e:(times k (blank s))[j]? = some v:=by
     rw[show k=m+(k-m) by omega,zQ,aa2 (by rw[oP,oQ];exact hj)]
     exact hv
    rw[<- ht,List.getElem?_take_of_lt (by omega)]at e
    simpa using e)
   have hk3:Kept w w3:=⟨hk.drew.out.trans (hB3 _ (aac _))⟩;have hm2:m<=n-k:=by rw[<- hm];exact Nat.min_le_right _ _
   have hm1:0<m:=by have h1:0<k:=Nat.pos_of_ne_zero (fun e=>by have:=hz e;omega);have:Nat.min k (n-k)=min k (n-k):=rfl;omega
   have HM:Hid (m<=n-k/\0<m/\m<=16384):=⟨hm2,hm1,by omega⟩;clear hm YR hB3 hm2 hm1;go_wp2;go_region;go_wp2;go_roundg (n-(k+m));case measure=>have:=HM.out;omega
   case rel=>exact⟨k+m,rfl,by obtain⟨h1,h2,h3⟩:=HM.out;have e:wrap64 ((k:Int)+(m:Int))=((k+m:Nat):Int):=(by unfold wrap64;omega);rw[e],fun e=>by have:=HM.out;omega,hL3,hk3⟩
  ·have hd:decide ((k:Int)<(n:Int))=false:=by simpa using hlt
   go_wp2;go_ret;obtain rfl:k=n:=by omega
   obtain⟨cur,hg,hs,ht⟩:=hL.out;refine⟨rfl,?_,hk⟩;rw[hg,<- ht,aaz (by simp[hs])]
structure rU where
 kept:ByteArray
 tH:Bool
 last:Nat
structure Wr where
 sec:Nat
 bytes:ByteArray
structure Dk where
 secs:List rU
 waits:List Wr
 cuts:List Ct
 acts:Nat
 since:Nat
 fails:Nat
 dead:Bool
structure jg (w:World) (g:Nat) (l:List rU):Prop where
 out:∃ cur:Array Value,w.heap[g]? = some (.cells cur 60)/\∀ i (h:i<l.length),cur[i*3]? = some (.string l[i].kept)/\cur[i*3+1]? = some (.bool l[i].tH)/\cur[i*3+2]? = some (.int .i64 (l[i].last:Nat))
variable {l:List rU}
theorem jg.cells(h:jg w g l)(i:Nat)(hi:i<l.length) :
  w.cell? ⟨g,i*3,none⟩=some (.string l[i].kept)/\w.cell? ⟨g,i*3+1,none⟩=some (.bool l[i].tH)/\w.cell? ⟨g,i*3+2,none⟩=some (.int .i64 (l[i].last:Nat)):=by
 obtain⟨cur,hg,hc⟩:=h.out;obtain⟨h1,h2,h3⟩:=hc i hi;exact⟨by rw[cell_of_row w g _ _ _ _ hg];exact h1,by rw[cell_of_row w g _ _ _ _ hg];exact h2,by rw[cell_of_row w g _ _ _ _ hg];exact h3⟩
theorem jg.frozen(h:jg w g l)(i:Nat):w.frozen? ⟨g,i,none⟩=false:=by
 obtain⟨cur,hg,_⟩:=h.out;exact frozen_of_row w g _ _ _ hg
variable {w':World}
theorem jg.block(h:jg w g l)(hb:w'.heap[g]? = w.heap[g]?):jg w' g l:=by
 obtain⟨cur,hg,hc⟩:=h.out;exact⟨cur,hb.trans hg,hc⟩
theorem jg.set(h:jg w g l)(i:Nat)(hi:i<l.length)(f:rU->rU)(j:Nat)(hj:j<=2)(v:Value)(h0:j=0->v=.string (f l[i]).kept)(h0':j≠0->(f l[i]).kept=l[i].kept)(h1:j=1->v=.bool (f l[i]).tH)(h1':j≠1->(f l[i]).tH=l[i].tH)(h2:j=2->v=.int .i64 ((f l[i]).last:Nat))(h2':j≠2->(f l[i]).last=l[i].last) :
  jg (w.setCell ⟨g,i*3+j,none⟩ v) g (l.modify i f):=by
 obtain⟨cur,hg,hc⟩:=h.out;refine⟨_,heap_setCell_same w g (i*3+j) _ _ _ hg,fun k hk=>?_⟩;have hk':k<l.length:=by simpa using hk
 obtain⟨e0,e1,e2⟩:=hc k hk';rw[List.getElem_modify];by_cases hik:i=k
 ·subst hik
  have l0:=(aaa.1 e0).1;have l1:=(aaa.1 e1).1;have l2:=(aaa.1 e2).1;rw[aao rfl];refine⟨?_,?_,?_⟩
  ·by_cases e:j=0
   ·subst e
    rw[Nat.add_zero,Array.getElem?_setIfInBounds_self_of_lt l0,h0 rfl]
   ·rw[aaI (by omega),e0,h0' e]
  ·by_cases e:j=1
   ·subst e
    rw[Array.getElem?_setIfInBounds_self_of_lt l1,h1 rfl]
   ·rw[aaI (by omega),e1,h1' e]
  ·by_cases e:j=2
   ·subst e
    rw[Array.getElem?_setIfInBounds_self_of_lt l2,h2 rfl]
   ·rw[aaI (by omega),e2,h2' e]
 ·rw[aai hik]
  exact⟨by rw[aaI (by omega)];exact e0,by rw[aaI (by omega)];exact e1,by rw[aaI (by omega)];exact e2⟩
def eP (l:List Wr):List Value:=l.flatMap fun x=>[.int .i64 (x.sec:Nat),.string x.bytes]
theorem eD:∀ (l:List Wr) (j:Nat) (h:j<l.length),(eP l)[j*2]? = some (.int .i64 (l[j].sec:Nat))/\(eP l)[j*2+1]? = some (.string l[j].bytes)
 | x :: r,0,_=>by simp[eP]
 | x :: r,j+1,h=>by
  have:=eD r j (by simpa using h);rw[show (j+1)*2=j*2+2 by omega,show j*2+2+1=j*2+1+2 by omega];simpa[eP] using this
theorem Ba(l:List Wr)(x:Wr):eP (l++[x])=eP l++[.int .i64 x.sec,.string x.bytes]:=by simp[eP]
theorem vR:∀ (l:List Wr) (j:Nat) (x:Wr),((eP l).set (j*2) (.int .i64 x.sec)).set (j*2+1) (.string x.bytes)=eP (l.set j x)
 | [],j,x=>by simp[eP]
 | y :: r,0,x=>by simp[eP]
 | y :: r,j+1,x=>by
  have:=vR r j x;rw[show (j+1)*2=j*2+2 by omega,show j*2+2+1=j*2+1+2 by omega];simpa[eP] using this
structure iZ (B:Nat) (w:World) (b g:Nat) (vw vc:Value) (d:Dk):Prop where
 blk:w.heap[b]? = some (.cells #[.slice (some ⟨g,0,none⟩) d.secs.length d.secs.length,vw,vc,.int .i64 (d.acts:Nat),.int .i64 (d.since:Nat),.int .i64 (d.fails:Nat),.bool d.dead] 66)
 secs:jg w g d.secs
 waits:w.ownsRow B 145 2 vw d.waits.length (eP d.waits)
 cuts:fJ 0 w vc d.cuts
 xz:B<=b
 Jw:B<=g
structure aa (B:Nat) (w:World) (b g:Nat) (d:Dk):Prop where
 out:∃ vw vc,iZ B w b g vw vc d
variable {B b:Nat}{vw vc:Value}{d:Dk}
theorem iZ.cell(h:iZ B w b g vw vc d) :
  w.cell? ⟨b,0,none⟩=some (.slice (some ⟨g,0,none⟩) d.secs.length d.secs.length)/\w.cell? ⟨b,1,none⟩=some vw/\w.cell? ⟨b,2,none⟩=some vc/\w.cell? ⟨b,3,none⟩=some (.int .i64 d.acts) /\
  w.cell? ⟨b,4,none⟩=some (.int .i64 d.since)/\w.cell? ⟨b,5,none⟩=some (.int .i64 d.fails)/\w.cell? ⟨b,6,none⟩=some (.bool d.dead):=by
 refine⟨?_,?_,?_,?_,?_,?_,?_⟩ <;> (rw[cell_of_row w b _ _ _ _ h.blk];rfl)
theorem iZ.frozen(h:iZ B w b g vw vc d)(j:Nat):w.frozen? ⟨b,j,none⟩=false:=frozen_of_row w b j _ _ h.blk
theorem Kept.disk(h:Kept w w'){B b g:Nat}{vw vc:Value}{d:Dk}(k:iZ B w b g vw vc d):iZ B w' b g vw vc d:=by
 obtain⟨cur,hg,hc⟩:=k.secs.out;exact⟨h.block k.blk,⟨cur,h.block hg,hc⟩,sW h k.waits,k.cuts.on (h.on (aag _)),k.xz,k.Jw⟩
theorem Kept.dk(h:Kept w w'){B b g:Nat}{d:Dk}(k:aa B w b g d):aa B w' b g d:=by
 obtain⟨vw,vc,k⟩:=k.out;exact⟨vw,vc,h.disk k⟩
def Dk.new (n:Nat) (cuts:List Ct):Dk:=⟨List.replicate n ⟨whole ⟨#[]⟩,false,0⟩,[],cuts,0,0,0,false⟩
theorem zR(s:ByteArray):∀ (n i:Nat),i<n->(times n (blank s))[i*3]? = some (.string s)/\(times n (blank s))[i*3+1]? = some (.bool false)/\(times n (blank s))[i*3+2]? = some (.int .i64 0)
 | n+1,0,_=>by simp[times,blank,List.replicate_succ]
 | n+1,i+1,h=>by
  have:=zR s n i (by omega);rw[show (i+1)*3=i*3+3 by omega,show i*3+3+1=i*3+1+3 by omega,show i*3+3+2=i*3+2+3 by omega];simpa[times,blank,List.replicate_succ] using this
theorem bH(w:World)(o p:Obj):((w.alloc o).alloc p).heap[w.heap.size+1]? = some p:=by
 have:=heap_alloc_new (w.alloc o) p;rwa [show (w.alloc o).heap.size=w.heap.size+1 by simp]at this
theorem Jy(n:Nat)(hn:n<=16384)(s:ByteArray)(b:Nat)(w:World)(hb:w.heap[b]? = some (.cells #[.string s,.bool false,.int .i64 0] 60)):
 Calls Tryz.prog 29 #[.slice (some ⟨b,0,none⟩) 1 1,.int .i64 n] w fun e w'=>∃ g,e=.returned (.slice (some ⟨g,0,none⟩) n n)/\w.heap.size<=g/\w'.heap[g]? = some (.cells (times n (blank s)).toArray 60)/\Kept w w':=by
 refine (CE n hn s b w hb).mono ?_;rintro e w' ⟨rfl,h1,h2⟩;exact⟨_,rfl,aac _,h1,h2⟩
variable {v:Value}
theorem dN{l:List Ct}(n:Nat)(hn:n<=16384)(h:fJ B w v l)(hB:B<=w.heap.size)(hl:l.length<=5)(hfl:∀ c∈l,c.fq.length*8<=140737488355328):
 Calls Tryz.prog 8 #[.int .i64 n,v] w fun e w'=>∃ b g,e=.returned (.tuple #[.pointer (some ⟨b,0,none⟩),.int .i64 0])/\aa w.heap.size w' b g (Dk.new n l)/\Kept w w':=by
 have hd1:decide ((n:Int)<0)=false:=by simp
 have hd2:decide ((16384:Int)<(n:Int))=false:=by simp;omega
 have hwh:=gz ⟨#[]⟩ (by decide);unfold Dk.new;generalize whole ⟨#[]⟩=s0 at hwh ⊢;go_enter Tryz.func8,Tryz.ntmps8;go_wp2_with (first
  | (go_at_call 28;refine (hwh _).mono ?_;rintro e w1 ⟨rfl,hk1⟩)
  | (go_at_call 29;refine (Jy n hn s0 _ _ (bH _ _ _)).mono ?_;rintro e w2 ⟨g,rfl,hlg,hs2,hk2⟩;have zH:Kept w w2:=((hk1.alloc _).alloc _).trans hk2;have YS:w.heap.size<=g:=aad ((hk1.alloc _).alloc _).size hlg;clear hk2 hlg)
  | (go_at_call 30;refine (Mi (h.on (zH.on hB)) (aad hB zH.size) hl hfl).mono ?_;rintro e w3 ⟨v3,rfl,hc3,hk3⟩;obtain⟨p3,q3,e3,acD⟩:=hc3.out;subst e3))
 go_ret2;refine⟨_,g,rfl,⟨_,_,by simp only[aa4];exact heap_alloc_new _ _,?_,World.ownsRow_nil _ _ _ _,hc3.on (((Kept.refl w3).alloc _).on (aag _)),(zH.trans hk3).size,YS⟩,(zH.trans hk3).alloc _⟩;refine⟨_,(((Kept.refl w3).alloc _)).block (hk3.block hs2),fun i hi=>?_⟩;have hi':i<n:=by simpa using hi
 have:=zR s0 n i hi';simpa using this
theorem Bb(h:aa B w b g d):Calls Tryz.prog 72 #[.pointer (some ⟨b,0,none⟩)] w fun e w'=>e=.returned (.int .i64 d.secs.length)/\w'=w:=by
 obtain⟨vw,vc,k⟩:=h.out;obtain⟨c0,c1,c2,c3,c4,c5,c6⟩:=k.cell;go_enter Tryz.func72,Tryz.ntmps72;go_wp2;go_ret;exact⟨rfl,rfl⟩
theorem xI(h:aa B w b g d):Calls Tryz.prog 206 #[.pointer (some ⟨b,0,none⟩)] w fun e w'=>e=.returned (.int .i64 d.fails)/\w'=w:=by
 obtain⟨vw,vc,k⟩:=h.out;obtain⟨c0,c1,c2,c3,c4,c5,c6⟩:=k.cell;go_enter Tryz.func206,Tryz.ntmps206;go_wp2;go_ret;exact⟨rfl,rfl⟩
theorem dX(h:aa B w b g d):Calls Tryz.prog 22 #[.pointer (some ⟨b,0,none⟩)] w fun e w'=>e=.returned (.bool d.dead)/\w'=w:=by
 obtain⟨vw,vc,k⟩:=h.out;obtain⟨c0,c1,c2,c3,c4,c5,c6⟩:=k.cell;go_enter Tryz.func22,Tryz.ntmps22;go_wp2;go_ret;exact⟨rfl,rfl⟩
theorem nO(h:aa B w b g d)(n:Int):Calls Tryz.prog 77 #[.pointer (some ⟨b,0,none⟩),.int .i64 n] w fun e w'=>e=.returned (.bool (decide (0<=n/\n<(d.secs.length:Int))))/\w'=w:=by
 obtain⟨vw,vc,k⟩:=h.out;obtain⟨c0,c1,c2,c3,c4,c5,c6⟩:=k.cell;by_cases h0:0<=n
 ·go_enter Tryz.func77,Tryz.ntmps77
  go_wp2;go_ret;exact⟨by simp[h0],rfl⟩
 ·go_enter Tryz.func77,Tryz.ntmps77
  go_wp2;go_ret;exact⟨by simp;omega,rfl⟩
def Dk.ql (d:Dk):Nat:=match d.cuts with
 | []=>0
 | c :: _=>c.fq.length
theorem xJ(h:aa B w b g d):Calls Tryz.prog 108 #[.pointer (some ⟨b,0,none⟩)] w fun e w'=>e=.returned (.int .i64 d.ql)/\w'=w:=by
 obtain⟨vw,vc,k⟩:=h.out;obtain⟨c0,c1,c2,c3,c4,c5,c6⟩:=k.cell;obtain⟨p,c,rfl,h1,h2,hc⟩:=k.cuts.out;cases hd:d.cuts with
 | nil=>
  rw[hd]at c2;have ef:d.ql=0:=by simp[Dk.ql,hd]
  go_enter Tryz.func108,Tryz.ntmps108;go_wp2;go_ret;exact⟨by rw[ef];rfl,rfl⟩
 | cons x r=>
  have ef:d.ql=x.fq.length:=by simp[Dk.ql,hd]
  rw[hd]at hc;obtain⟨bc,off,vf,rfl,hs,hx,hy,hf⟩:=hc 0 (by simp);obtain⟨p',c',rfl,_⟩:=hf.out;rw[Nat.zero_mul,Nat.add_zero]at hx hy;have hlen:d.cuts.length=r.length+1:=by rw[hd];rfl
  rw[hlen]at c2;go_enter Tryz.func108,Tryz.ntmps108;go_wp2;go_ret;exact⟨by rw[ef];rfl,rfl⟩
theorem TM:¬ Calm 66:=by unfold Calm;decide
theorem WJ:¬ Calm 60:=by unfold Calm;decide
theorem Fe:¬ Calm 145:=by unfold Calm;decide
theorem iZ.ne(h:iZ B w b g vw vc d):g≠b:=by
 intro e;obtain⟨cur,hg,_⟩:=h.secs.out;rw[e,h.blk]at hg;injection hg with hg
 injection hg with _ e2 _
 exact absurd e2 (by decide)
theorem iZ.turn(h:iZ B w b g vw vc d)(j:Nat)(v:Value) :
  jg (w.setCell ⟨b,j,none⟩ v) g d.secs/\(w.setCell ⟨b,j,none⟩ v).ownsRow B 145 2 vw d.waits.length (eP d.waits)/\fJ 0 (w.setCell ⟨b,j,none⟩ v) vc d.cuts/\On B w (w.setCell ⟨b,j,none⟩ v):=by
 have ho:On B w (w.setCell ⟨b,j,none⟩ v):=(On.refl B w).setCell h.xz h.blk TM j v;exact⟨h.secs.block (Below.heap_setCell w ⟨b,j,none⟩ v g h.ne),nC h.waits h.blk (by decide) v,h.cuts.on (ho.mono (aag _)),ho⟩
theorem iZ.GV(h:iZ B w b g vw vc d)(x:Nat):iZ B (w.setCell ⟨b,3,none⟩ (.int .i64 x)) b g vw vc { d with acts:=x }:=
 ⟨by rw[heap_setCell_same w b 3 _ _ _ h.blk];rfl,(h.turn _ _).1,(h.turn _ _).2.1,(h.turn _ _).2.2.1,h.xz,h.Jw⟩
theorem iZ.CF(h:iZ B w b g vw vc d)(x:Nat):iZ B (w.setCell ⟨b,4,none⟩ (.int .i64 x)) b g vw vc { d with since:=x }:=
 ⟨by rw[heap_setCell_same w b 4 _ _ _ h.blk];rfl,(h.turn _ _).1,(h.turn _ _).2.1,(h.turn _ _).2.2.1,h.xz,h.Jw⟩
theorem iZ.Ml(h:iZ B w b g vw vc d)(x:Nat):iZ B (w.setCell ⟨b,5,none⟩ (.int .i64 x)) b g vw vc { d with fails:=x }:=
 ⟨by rw[heap_setCell_same w b 5 _ _ _ h.blk];rfl,(h.turn _ _).1,(h.turn _ _).2.1,(h.turn _ _).2.2.1,h.xz,h.Jw⟩
theorem iZ.Qy(h:iZ B w b g vw vc d)(x:Bool):iZ B (w.setCell ⟨b,6,none⟩ (.bool x)) b g vw vc { d with dead:=x }:=
 ⟨by rw[heap_setCell_same w b 6 _ _ _ h.blk];rfl,(h.turn _ _).1,(h.turn _ _).2.1,(h.turn _ _).2.2.1,h.xz,h.Jw⟩
theorem iZ.GX(h:iZ B w b g vw vc d):iZ B (w.setCell ⟨b,1,none⟩ (.slice none 0 0)) b g (.slice none 0 0) vc { d with waits:=[] }:=
 ⟨by rw[heap_setCell_same w b 1 _ _ _ h.blk];rfl,(h.turn _ _).1,World.ownsRow_nil _ _ _ _,(h.turn _ _).2.2.1,h.xz,h.Jw⟩
theorem iZ.Qz(h:iZ B w b g vw vc d)(v:Value)(l:List Ct)(hl:fJ 0 w v l):iZ B (w.setCell ⟨b,2,none⟩ v) b g vw v { d with cuts:=l }:=
 ⟨by rw[heap_setCell_same w b 2 _ _ _ h.blk];rfl,(h.turn _ _).1,(h.turn _ _).2.1,hl.on ((h.turn 2 v).2.2.2.mono (aag _)),h.xz,h.Jw⟩
theorem iZ.sec(h:iZ B w b g vw vc d)(i:Nat)(v:Value)(l:List rU)(hl:l.length=d.secs.length)(hs:jg (w.setCell ⟨g,i,none⟩ v) g l) :
  iZ B (w.setCell ⟨g,i,none⟩ v) b g vw vc { d with secs:=l }/\On B w (w.setCell ⟨g,i,none⟩ v):=by
 obtain⟨cur,hg,_⟩:=h.secs.out;have ho:On B w (w.setCell ⟨g,i,none⟩ v):=(On.refl B w).setCell h.Jw hg WJ i v;refine⟨⟨?_,hs,nC h.waits hg (by decide) v,h.cuts.on (ho.mono (aag _)),h.xz,h.Jw⟩,ho⟩;rw[Below.heap_setCell w ⟨g,i,none⟩ v b h.ne.symm,h.blk,hl]
theorem iZ.setLast(h:iZ B w b g vw vc d)(i:Nat)(hi:i<d.secs.length)(x:Nat) :
  iZ B (w.setCell ⟨g,i*3+2,none⟩ (.int .i64 x)) b g vw vc { d with secs:=d.secs.modify i fun s=>{ s with last:=x } }/\On B w (w.setCell ⟨g,i*3+2,none⟩ (.int .i64 x)):=
 h.sec _ _ _ (by simp) (h.secs.set i hi (fun s=>{ s with last:=x }) 2 (aac _) _ (fun e=>absurd e (by decide)) (fun _=>rfl) (fun e=>absurd e (by decide)) (fun _=>rfl) (fun _=>rfl) (fun e=>absurd rfl e))
theorem iZ.QA(h:iZ B w b g vw vc d)(i:Nat)(hi:i<d.secs.length)(x:ByteArray) :
  iZ B (w.setCell ⟨g,i*3,none⟩ (.string x)) b g vw vc { d with secs:=d.secs.modify i fun s=>{ s with kept:=x } }/\On B w (w.setCell ⟨g,i*3,none⟩ (.string x)):=
 h.sec _ _ _ (by simp) (h.secs.set i hi (fun s=>{ s with kept:=x }) 0 (by omega) _ (fun _=>rfl) (fun e=>absurd rfl e) (fun e=>absurd e (by decide)) (fun _=>rfl) (fun e=>absurd e (by decide)) (fun _=>rfl))
theorem iZ.QB(h:iZ B w b g vw vc d)(i:Nat)(hi:i<d.secs.length)(x:Bool) :
  iZ B (w.setCell ⟨g,i*3+1,none⟩ (.bool x)) b g vw vc { d with secs:=d.secs.modify i fun s=>{ s with tH:=x } }/\On B w (w.setCell ⟨g,i*3+1,none⟩ (.bool x)):=
 h.sec _ _ _ (by simp) (h.secs.set i hi (fun s=>{ s with tH:=x }) 1 (by omega) _ (fun e=>absurd e (by decide)) (fun _=>rfl) (fun _=>rfl) (fun e=>absurd rfl e) (fun e=>absurd e (by decide)) (fun _=>rfl))
theorem Kept.drewN{a b:World}(h:Kept a b)(n:Nat):Kept a (b.drewN n):=⟨h.out.trans ⟨rfl,rfl,rfl,aac _,fun _ _=>rfl⟩⟩
def qU (x:Wr) (QC:Nat) (s:rU):rU:=if QC=0 then { s with last:=0 } else ⟨x.bytes,QC == 2,0⟩
def Dk.settle (d:Dk) (x:Wr) (QC:Nat):Dk:={ d with secs:=d.secs.modify x.sec (qU x QC) }
def Wr.val (x:Wr):Value:=.agg #[.int .i64 (x.sec:Nat),.string x.bytes]
theorem jW(k0:iZ B w b g vw vc d)(hB:B<=w.heap.size)(x:Wr)(hx:x.sec<d.secs.length)(f:Nat)(hf:f<=2):
 Calls Tryz.prog 110 #[.pointer (some ⟨b,0,none⟩),x.val,.int .i64 f] w fun e w'=>e=.returned (.tuple #[])/\iZ B w' b g vw vc (d.settle x f)/\On B w w':=by
 have hk1:=(Kept.refl w).alloc (.cells #[.int .i64 x.sec,.string x.bytes] 145);have k1:=hk1.disk k0;obtain⟨c0,_⟩:=k1.cell;have hnew:(w.alloc (.cells #[.int .i64 x.sec,.string x.bytes] 145)).heap[w.heap.size]? = some (.cells #[.int .i64 x.sec,.string x.bytes] 145):=heap_alloc_new w _;unfold Wr.val;have i1:(0:Int)<=(x.sec:Int):=by omega
 have i2:(x.sec:Int)<(d.secs.length:Int):=by omega
 have hng:g≠w.heap.size:=by
  obtain⟨cur,hg,_⟩:=k0.secs.out;have:=(aaa.1 hg).1;omega
 go_enter Tryz.func110,Tryz.ntmps110;go_wp2;go_quiet (fail);obtain⟨W,hW⟩:∃ W,(w.alloc (.cells #[.int .i64 x.sec,.string x.bytes] 145)).drewN nq=W:=⟨_,rfl⟩;have hkW:Kept w W:=by rw[<- hW];exact hk1.drewN nq
 have QD:W.heap[w.heap.size]? = some (.cells #[.int .i64 x.sec,.string x.bytes] 145):=by rw[<- hW,World.heap_drewN];exact hnew
 rw[hW];clear hW hnew c0 k1 hk1;have k2:=hkW.disk k0;have d2:=k2.secs.cells x.sec hx;have f2:=k2.secs.frozen (x.sec*3+2);have f20:=k2.secs.frozen (x.sec*3);have f21:=k2.secs.frozen (x.sec*3+1);obtain⟨d20,d21,d22⟩:=d2;obtain⟨k3,o3⟩:=k2.setLast x.sec hx 0;have hx3:x.sec<(d.secs.modify x.sec fun s=>{ s with last:=0 }).length:=by simpa using hx
 have b3:(W.setCell ⟨g,x.sec*3+2,none⟩ (.int .i64 0)).cell? ⟨w.heap.size,1,none⟩=some (.string x.bytes):=by
  rw[World.cell?_of_block (w:=W) (Below.heap_setCell W _ _ _ (by exact Ne.symm hng)),cell_of_row W _ _ _ _ _ QD];rfl
 obtain⟨d30,_,_⟩:=k3.secs.cells x.sec hx3;have f30:=k3.secs.frozen (x.sec*3);obtain⟨k4,o4⟩:=k3.QA x.sec hx3 x.bytes;have hx4:x.sec<((d.secs.modify x.sec fun s=>{ s with last:=0 }).modify x.sec fun s=>{ s with kept:=x.bytes }).length:=by simpa using hx
 obtain⟨_,d41,_⟩:=k4.secs.cells x.sec hx4;have f41:=k4.secs.frozen (x.sec*3+1);have ho0:=(hkW.on hB).trans o3;have hfin:∀ t,iZ B (((W.setCell ⟨g,x.sec*3+2,none⟩ (.int .i64 0)).setCell ⟨g,x.sec*3,none⟩ (.string x.bytes)).setCell ⟨g,x.sec*3+1,none⟩ (.bool t)) b g vw vc { d with secs:=d.secs.modify x.sec (fun _=>⟨x.bytes,t,0⟩) }/\On B w (((W.setCell ⟨g,x.sec*3+2,none⟩ (.int .i64 0)).setCell ⟨g,x.sec*3,none⟩ (.string x.bytes)).setCell ⟨g,x.sec*3+1,none⟩ (.bool t)):=by
  intro t;obtain⟨k5,o5⟩:=k4.QB x.sec hx4 t;refine⟨?_,(ho0.trans o4).trans o5⟩;have e:(((d.secs.modify x.sec fun s=>{ s with last:=0 }).modify x.sec fun s=>{ s with kept:=x.bytes }).modify x.sec fun s=>{ s with tH:=t })=d.secs.modify x.sec (fun _=>⟨x.bytes,t,0⟩):=by
   rw[List.modify_modify_eq,List.modify_modify_eq];rfl
  have k6:=k5;simp only[e]at k6;exact k6
 clear k2 k4 o3 o4 hkW QD k0;obtain rfl | rfl | rfl:f=0\/f=1\/f=2:=by omega
 ·go_wp2
  first | go_end0 | refine bodyPost_ret (results_none rfl _ _ _) rfl ?_
  exact⟨rfl,k3,ho0⟩
 ·go_wp2
  first | go_end0 | refine bodyPost_ret (results_none rfl _ _ _) rfl ?_
  exact⟨rfl,(hfin false).1,(hfin false).2⟩
 ·go_wp2
  first | go_end0 | refine bodyPost_ret (results_none rfl _ _ _) rfl ?_
  exact⟨rfl,(hfin true).1,(hfin true).2⟩
theorem iZ.QE(h:iZ B w b g vw vc d){k:Nat}(hk:B<=k/\∃ cs t fr,w.heap[k]? = some (.cells cs t fr)/\t=145)(hg:w.grownBy w' (some k))(hB:B<=w.heap.size) :
  On B w w'/\w'.heap[b]? = w.heap[b]?/\jg w' g d.secs/\fJ 0 w' vc d.cuts:=by
 obtain⟨hk1,cs,t,fr,hcs,rfl⟩:=hk;have ho:On B w w':=(On.refl B w).grown hB hg (fun k' e=>by injection e with e;subst e;exact⟨hk1,cs,_,fr,hcs,Fe⟩);obtain⟨cur,hgc,hsc⟩:=h.secs.out;have e1:w'.heap[b]? = w.heap[b]?:=hg.block b (aaa.1 h.blk).1 (fun e=>by
  injection e with e;subst e;rw[h.blk]at hcs;injection hcs with hcs;injection hcs with _ e2 _;exact absurd e2 (by decide))
 have e2:w'.heap[g]? = w.heap[g]?:=hg.block g (aaa.1 hgc).1 (fun e=>by
  injection e with e;subst e;rw[hgc]at hcs;injection hcs with hcs;injection hcs with _ e2 _;exact absurd e2 (by decide))
 exact⟨ho,e1,h.secs.block e2,h.cuts.on (ho.mono (aag _))⟩
theorem iZ.QF{h cap:Nat}(k:iZ B w b g (.slice (some ⟨h,0,none⟩) d.waits.length cap) vc d)(hB:B<=w.heap.size)(q:Nat)(x:Wr) :
  iZ B ((w.setCell ⟨h,q*2,none⟩ (.int .i64 x.sec)).setCell ⟨h,q*2+1,none⟩ (.string x.bytes)) b g (.slice (some ⟨h,0,none⟩) d.waits.length cap) vc { d with waits:=d.waits.set q x } /\
  On B w ((w.setCell ⟨h,q*2,none⟩ (.int .i64 x.sec)).setCell ⟨h,q*2+1,none⟩ (.string x.bytes)):=by
 have hk:∀ {w:World} {xs:List Value},w.ownsRow B 145 2 (.slice (some ⟨h,0,none⟩) d.waits.length cap) d.waits.length xs->B<=h/\∃ cs t fr,w.heap[h]? = some (.cells cs t fr)/\t=145:=by
  intro w xs ho;rcases ho.2 with⟨e,_⟩|⟨g',cap',cur,e,hb,hg,_⟩
  ·cases e
  ·injection e with e _ _
   injection e with e
   injection e with e
   subst e;exact⟨hb,_,_,_,hg,rfl⟩
 obtain⟨r1,g1⟩:=k.waits.stored (q*2) (.int .i64 x.sec);obtain⟨r2,g2⟩:=r1.stored (q*2+1) (.string x.bytes);obtain⟨o1,b1,s1,c1⟩:=k.QE (hk k.waits) g1 hB;have hB1:B<=(w.setCell ⟨h,q*2,none⟩ (.int .i64 x.sec)).heap.size:=aad hB o1.size;have YT:=hk r1;obtain⟨hb,cs,t,fr,hcs,rfl⟩:=YT;have o2:On B (w.setCell ⟨h,q*2,none⟩ (.int .i64 x.sec)) _:=(On.refl B _).grown hB1 g2 (fun k' e=>by injection e with e;subst e;exact⟨hb,cs,_,fr,hcs,Fe⟩);obtain⟨cur,hgc,_⟩:=s1.out;have e1:=g2.block b (aaa.1 (b1.trans k.blk)).1 (fun e=>by
  injection e with e;subst e;rw[b1,k.blk]at hcs;injection hcs with hcs;injection hcs with _ e2 _;exact absurd e2 (by decide))
 have e2:=g2.block g (aaa.1 hgc).1 (fun e=>by
  injection e with e;subst e;rw[hgc]at hcs;injection hcs with hcs;injection hcs with _ e2 _;exact absurd e2 (by decide))
 refine⟨⟨(e1.trans b1).trans k.blk,s1.block e2,?_,c1.on (o2.mono (aag _)),k.xz,k.Jw⟩,o1.trans o2⟩;rw[vR]at r2;simpa using r2
theorem Jz(h:aa B w b g d)(hB:B<=w.heap.size)(x:Wr)(hx:x.sec<d.secs.length)(q:Nat)(hl:d.secs[x.sec].last=q+1)(hq:q<d.waits.length)(hw:d.waits.length<=100000)(hf:d.ql<=q):
 Calls Tryz.prog 78 #[.pointer (some ⟨b,0,none⟩),x.val] w fun e w'=>e=.returned (.tuple #[])/\aa B w' b g { d with waits:=d.waits.set q x }/\On B w w':=by
 obtain⟨vw,vc,k0⟩:=h.out;obtain⟨h0,cap,rfl,Wp,Wo⟩:=k0.waits.form (by omega);have hk1:=(Kept.refl w).alloc (.cells #[.int .i64 x.sec,.string x.bytes] 145);have k1:=hk1.disk k0;obtain⟨c0,_⟩:=k1.cell;have hnew:(w.alloc (.cells #[.int .i64 x.sec,.string x.bytes] 145)).heap[w.heap.size]? = some (.cells #[.int .i64 x.sec,.string x.bytes] 145):=heap_alloc_new w _;unfold Wr.val;have i1:(0:Int)<=(x.sec:Int):=by omega
 have i2:(x.sec:Int)<(d.secs.length:Int):=by omega
 go_enter Tryz.func78,Tryz.ntmps78;go_wp2;go_quiet (fail);obtain⟨W,hW⟩:∃ W,(w.alloc (.cells #[.int .i64 x.sec,.string x.bytes] 145)).drewN nq=W:=⟨_,rfl⟩;have hkW:Kept w W:=by rw[<- hW];exact hk1.drewN nq
 have QD:W.heap[w.heap.size]? = some (.cells #[.int .i64 x.sec,.string x.bytes] 145):=by rw[<- hW,World.heap_drewN];exact hnew
 rw[hW];clear hW hnew c0 k1 hk1;have k2:=hkW.disk k0;obtain⟨_,_,d22⟩:=k2.secs.cells x.sec hx;rw[hl]at d22;have acF:W.cell? ⟨g,x.sec*3+2,none⟩=some (.int .i64 ((q:Int)+1)):=d22;have UJ:=xJ ⟨_,_,k2⟩;have hd:decide ((d.ql:Int)<=(q:Int))=true:=by simpa using hf
 obtain⟨_,e1,_⟩:=k2.cell;have q1:(0:Int)<=(q:Int):=by omega
 have q2:(q:Int)<(d.waits.length:Int):=by omega
 have n0:W.cell? ⟨w.heap.size,0,none⟩=some (.int .i64 x.sec):=by rw[cell_of_row W _ _ _ _ _ QD];rfl
 have n1:W.cell? ⟨w.heap.size,1,none⟩=some (.string x.bytes):=by rw[cell_of_row W _ _ _ _ _ QD];rfl
 have r0:=k2.waits.cellAt (q*2) (by omega);have r1:=k2.waits.cellAt (q*2+1) (by omega);rw[(eD d.waits q hq).1]at r0;rw[(eD d.waits q hq).2]at r1;have f0:=k2.waits.frozenAt (q*2);have f1:=k2.waits.frozenAt (q*2+1);have Wq:Kept w W.drew:=hkW.drew;obtain⟨k3,o3⟩:=(Wq.disk k0).QF (aad hB Wq.size) q x;have LM:On B w _:=(Wq.on hB).trans o3;clear d22 k2 k0 o3 hkW h;go_wp2_with (go_at_call 108;refine UJ.mono ?_;rintro e w' ⟨rfl,hw'⟩;rw[hw'];clear hw');go_region;go_wp2;first | go_end0 | refine bodyPost_ret (results_none rfl _ _ _) rfl ?_
 exact⟨rfl,⟨_,_,k3⟩,LM⟩
theorem iZ.QG{w3:World}{v':Value}(k:iZ B w b g vw vc d)(hB:B<=w.heap.size)(x:Wr)(hg:w.grownBy w3 vw.ownBlock)(ho:w3.ownsRow B 145 2 v' (d.waits.length+1) (eP d.waits++[.int .i64 x.sec,.string x.bytes])) :
  iZ B (w3.setCell ⟨b,1,none⟩ v') b g v' vc { d with waits:=d.waits++[x] }/\On B w (w3.setCell ⟨b,1,none⟩ v')/\w3.cell? ⟨b,1,none⟩=some vw/\w3.frozen? ⟨b,1,none⟩=false:=by
 have hrow:∀ r,vw.ownBlock=some r->B<=r/\∃ cs t fr,w.heap[r]? = some (.cells cs t fr)/\t=145:=by
  intro r hr;rcases k.waits.2 with⟨e,_⟩|⟨g',cap',cur,e,hb,hgg,_⟩
  ·rw[e]at hr;cases hr
  ·rw[e]at hr
   injection hr with hr
   subst hr;exact⟨hb,_,_,_,hgg,rfl⟩
 have o1:On B w w3:=(On.refl B w).grown hB hg (fun r hr=>by obtain⟨h1,cs,t,fr,h2,rfl⟩:=hrow r hr;exact⟨h1,cs,_,fr,h2,Fe⟩);obtain⟨cur,hgc,_⟩:=k.secs.out;have e1:w3.heap[b]? = w.heap[b]?:=hg.block b (aaa.1 k.blk).1 (fun e=>by
  obtain⟨_,cs,t,fr,hcs,rfl⟩:=hrow b e.symm
  rw[k.blk]at hcs;injection hcs with hcs;injection hcs with _ e2 _;exact absurd e2 (by decide))
 have e2:w3.heap[g]? = w.heap[g]?:=hg.block g (aaa.1 hgc).1 (fun e=>by
  obtain⟨_,cs,t,fr,hcs,rfl⟩:=hrow g e.symm
  rw[hgc]at hcs;injection hcs with hcs;injection hcs with _ e2 _;exact absurd e2 (by decide))
 have hb3:=e1.trans k.blk;have o2:On B w3 (w3.setCell ⟨b,1,none⟩ v'):=(On.refl B w3).setCell k.xz hb3 TM 1 v';refine⟨⟨?_,?_,?_,?_,k.xz,k.Jw⟩,o1.trans o2,?_,frozen_of_row w3 b _ _ _ hb3⟩
 ·rw[heap_setCell_same w3 b 1 _ _ _ hb3];rfl
 ·exact (k.secs.block e2).block (Below.heap_setCell w3 ⟨b,1,none⟩ v' g k.ne)
 ·have:=nC (i:=1) ho hb3 (by decide) v'
  rw[<- Ba]at this;simpa using this
 ·exact (k.cuts.on (o1.mono (aag _))).on (o2.mono (aag _))
 ·rw[cell_of_row w3 b _ _ _ _ hb3];rfl
theorem QH:(Tryz.prog.info? 145).map (fun i=>(i.zero,i.size,i.bytes))=some (some (.agg #[.int .i64 0,.string ⟨#[]⟩]),2,24):=by kernel_rfl
theorem JB(w:World)(x y:Value)(t:TypeId):∀ (j:Nat) (u:Value),[x,y][j]? = some u->(w.alloc (.cells #[x,y] t)).cell? ((⟨w.heap.size,0,none⟩:Addr).add j)=some u:=by
 intro j u hj;rw[Addr.add_lit,aaj,cell_of_row _ _ _ _ _ _ (heap_alloc_new w _)];simpa using hj
theorem xK{base e size:Nat}{xs:List Value}(h:w.ownsRow base e size v n xs):∃ p cap,v=.slice p n cap:=by
 rcases h.2 with⟨rfl,rfl⟩|⟨g,cap,cur,rfl,_⟩
 ·exact⟨_,_,rfl⟩
 ·exact⟨_,_,rfl⟩
theorem JC(h:aa B w b g d)(hB:B<=w.heap.size)(x:Wr)(hx:x.sec<d.secs.length)(hw:d.waits.length<=100000)(hl:d.secs[x.sec].last<=100000)(hf:d.secs[x.sec].last<=d.ql):
 Calls Tryz.prog 78 #[.pointer (some ⟨b,0,none⟩),x.val] w fun e w'=>e=.returned (.tuple #[]) /\
   aa B w' b g { d with waits:=d.waits++[x],secs:=d.secs.modify x.sec fun s=>{ s with last:=d.waits.length+1 } }/\On B w w':=by
 obtain⟨i0,hi,hz0,hz1,hz2⟩:=info_parts QH;obtain⟨vw,vc,k0⟩:=h.out;obtain⟨p,cap,rfl⟩:=xK k0.waits;have hk1:=(Kept.refl w).alloc (.cells #[.int .i64 x.sec,.string x.bytes] 145);have k1:=hk1.disk k0;have c0:=k1.cell.1;have hnew:(w.alloc (.cells #[.int .i64 x.sec,.string x.bytes] 145)).heap[w.heap.size]? = some (.cells #[.int .i64 x.sec,.string x.bytes] 145):=heap_alloc_new w _;unfold Wr.val;have i1:(0:Int)<=(x.sec:Int):=by omega
 have i2:(x.sec:Int)<(d.secs.length:Int):=by omega
 go_enter Tryz.func78,Tryz.ntmps78;go_wp2;go_quiet (fail);obtain⟨W,hW⟩:∃ W,(w.alloc (.cells #[.int .i64 x.sec,.string x.bytes] 145)).drewN nq=W:=⟨_,rfl⟩;have hkW:Kept w W:=by rw[<- hW];exact hk1.drewN nq
 have QD:W.heap[w.heap.size]? = some (.cells #[.int .i64 x.sec,.string x.bytes] 145):=by rw[<- hW,World.heap_drewN];exact hnew
 rw[hW];clear hW hnew c0 k1 hk1;have k2:=hkW.disk k0;have d22:=(k2.secs.cells x.sec hx).2.2;obtain⟨L,hL⟩:∃ L,d.secs[x.sec].last=L:=⟨_,rfl⟩;rw[hL]at d22 hf hl;have UJ:=xJ ⟨_,_,k2⟩;have hd:decide ((d.ql:Int)<=(L:Int)-1)=false:=by simp;omega
 have e1:=k2.cell.2.1;have n0:W.cell? ⟨w.heap.size,0,none⟩=some (.int .i64 x.sec):=by rw[cell_of_row W _ _ _ _ _ QD];rfl
 have n1:W.cell? ⟨w.heap.size,1,none⟩=some (.string x.bytes):=by rw[cell_of_row W _ _ _ _ _ QD];rfl
 have Ff:Kept w (W.alloc (.cells #[.int .i64 x.sec,.string x.bytes] 145)):=hkW.alloc _;have Yw:Kept w (W.alloc (.cells #[.int .i64 x.sec,.string x.bytes] 145)).drew:=Ff.drew;have eA:=(Ff.disk k0).cell.2.1;have nA0:(W.alloc (.cells #[.int .i64 x.sec,.string x.bytes] 145)).cell? ⟨w.heap.size,0,none⟩=some (.int .i64 x.sec):=Lib.cell?_alloc_some _ n0;have nA1:(W.alloc (.cells #[.int .i64 x.sec,.string x.bytes] 145)).cell? ⟨w.heap.size,1,none⟩=some (.string x.bytes):=Lib.cell?_alloc_some _ n1;have k3:=Yw.disk k0;have hlw:w.heap.size<(W.alloc (.cells #[.int .i64 x.sec,.string x.bytes] 145)).drew.heap.size:=aas (aaa.1 QD).1 (by simp);have hpw:∀ k,(Value.slice p d.waits.length cap).ownBlock=some k->k≠w.heap.size:=fun k e=>by have:=(k0.waits.lt k e).2;omega
 have rV:=aad hB Yw.size;have hbytes:(d.waits.length+1)*24<=140737488355328:=by omega
 have h63:d.waits.length+1<=maxLen:=by unfold maxLen;omega
 have dV:∀ u∈[Value.int .i64 x.sec,Value.string x.bytes],u.oneCell'=true:=by intro u hu;simp at hu;rcases hu with rfl | rfl <;> rfl
 have hnews:=JB W (.int .i64 x.sec) (.string x.bytes) 145;have HX:Hid (On B w (W.alloc (.cells #[.int .i64 x.sec,.string x.bytes] 145)).drew):=Yw.on hB;have K3:Hid (iZ B (W.alloc (.cells #[.int .i64 x.sec,.string x.bytes] 145)).drew b g (.slice p d.waits.length cap) vc d):=k3;clear Ff k2 k0 hkW h k3 Yw;go_wp2_with (go_at_call 108;refine UJ.mono ?_;rintro e w' ⟨rfl,hw'⟩;rw[hw'];clear hw');go_region_law (refine step_append_lies _ (by rfl) _ _ _ (by rfl) B 145 i0 _ 2 24 Tryz.underlying64 hi hz0 hz1 hz2 (by rfl) (by decide) (.slice p d.waits.length cap) d.waits.length (eP d.waits) (by rfl) K3.out.waits ⟨W.heap.size,0,none⟩ 1 1 [.int .i64 x.sec,.string x.bytes] (by rfl) (by rfl) hnews dV (by omega) h63 hbytes rV _ rfl ?_;intro gw CG w3 ho3 hg3 _ _;obtain⟨k4,o4,c4,f4⟩:=K3.out.QG rV x hg3 ho3);all_goals
  have g4:=(k4.secs.cells x.sec hx).2.2
  rw[hL]at g4
  have gf4:=k4.secs.frozen (x.sec*3+2)
  have e4:=k4.cell.2.1
  obtain⟨k5,o5⟩:=k4.setLast x.sec hx (d.waits.length+1)
  have hfin:=(HX.out.trans o4).trans o5
  have gf3:w3.frozen? ⟨g,x.sec*3+2,none⟩=false:=by
   have:=k4.secs.frozen (x.sec*3+2);rwa [World.frozen?_of_block (w:=w3) (Below.heap_setCell w3 _ _ _ (by exact k4.ne))]at this
  have g3:w3.cell? ⟨g,x.sec*3+2,none⟩=some (.int .i64 (L:Nat)):=by
   have:=g4;rwa [World.cell?_of_block (w:=w3) (Below.heap_setCell w3 _ _ _ (by exact k4.ne))]at this
  clear k4 o4 o5 hi hz0 hz1 hz2 hg3 ho3
  go_wp2
  first | go_end0 | refine bodyPost_ret (results_none rfl _ _ _) rfl ?_
  exact⟨rfl,⟨_,_,k5⟩,hfin⟩
def jh (c:Ct) (i:Nat):Nat:=if i<c.fq.length then ((c.fq.getD i 0) % 3).toNat else 0
theorem JD(c:Ct)(i:Nat):jh c i<=2:=by unfold jh;split <;> omega
theorem YU(x:Int):(x.tmod 3+3).tmod 3=x % 3:=by
 have h:x.tmod 3=x-3*x.tdiv 3:=by have:=Int.tmod_add_mul_tdiv x 3;omega
 rcases Int.le_total 0 x with hx | hx
 ·have h1:=Int.tmod_nonneg (b:=3) (a:=x) hx
  rw[Int.tmod_eq_emod_of_nonneg (by omega),Int.add_emod_right,Int.tmod_eq_emod_of_nonneg hx];omega
 ·have h1:-3<x.tmod 3:=by have:=Int.lt_tmod_of_pos x (b:=3) (by decide);omega
  rw[Int.tmod_eq_emod_of_nonneg (by omega),Int.add_emod_right,h];omega
theorem CJ{vf:Value}(c:Ct)(h:aW B w vf c.fq)(i:Nat)(hi:i<=100000):
 Calls Tryz.prog 142 #[.agg #[.int .i64 c.at_,vf],.int .i64 i] w fun e w'=>e=.returned (.int .i64 (jh c i:Nat))/\Kept w w':=by
 obtain⟨p,cc,rfl,hc⟩:=h.out;by_cases hl:i<c.fq.length
 ·obtain⟨b,off,rfl,hs,hx⟩:=hc i hl
  have hd:decide (((c.fq.length:Nat):Int)<=(i:Int))=false:=by simp;omega
  have i1:(0:Int)<=(i:Int):=by omega
  have i2:(i:Int)<(c.fq.length:Int):=by omega
  obtain⟨X,hX⟩:∃ X,c.fq.getD i 0=X:=⟨_,rfl⟩;have ef:((jh c i:Nat):Int)=(X.tmod 3+3).tmod 3:=by
   rw[YU];unfold jh;rw[aao hl,hX];omega
  rw[hX]at hx;have hxA:(w.alloc (.cells #[.int .i64 c.at_,.slice (some ⟨b,off,none⟩) c.fq.length cc] 96)).cell? ⟨b,off+i,none⟩=some (.int .i64 X):=Lib.cell?_alloc_some _ hx;have w1:-3<X.tmod 3/\X.tmod 3<3:=⟨by have:=Int.lt_tmod_of_pos X (b:=3) (by decide);omega,Int.tmod_lt_of_pos X (by decide)⟩;rw[ef];clear ef hX hc h hs;go_enter Tryz.func142,Tryz.ntmps142;go_wp2;go_ret;refine⟨?_,(Kept.refl w).alloc _⟩;show Ending.returned (Value.int .i64 ((X.tmod 3+3) % 3))=_;rw[Int.tmod_eq_emod_of_nonneg (a:=X.tmod 3+3) (by omega)]
 ·have hd:decide (((c.fq.length:Nat):Int)<=(i:Int))=true:=by simp;omega
  have ef:jh c i=0:=by unfold jh;rw[aai hl]
  rw[ef];go_enter Tryz.func142,Tryz.ntmps142;go_wp2;go_ret;exact⟨rfl,(Kept.refl w).alloc _⟩
theorem Mm(h:aa B w b g d)(ha:d.acts<=100000)(hs:d.since<=100000)(hc:∀ c r,d.cuts=c :: r->(d.since:Int)<c.at_):
 Calls Tryz.prog 79 #[.pointer (some ⟨b,0,none⟩)] w fun e w'=>e=.returned (.int .i64 0)/\aa B w' b g { d with acts:=d.acts+1,since:=d.since+1 }/\On B w w':=by
 obtain⟨vw,vc,k0⟩:=h.out;obtain⟨pc,cc,rfl,hcc,hcm,Mj⟩:=k0.cuts.out;obtain⟨c0,c1,c2,c3,c4,c5,c6⟩:=k0.cell;have f3:=k0.frozen 3;have f4:=k0.frozen 4;have k1:iZ B (w.setCell ⟨b,3,none⟩ (.int .i64 ((d.acts:Int)+1))) b g vw (.slice pc d.cuts.length cc) { d with acts:=d.acts+1 }:=k0.GV (d.acts+1);have o1:=(k0.turn 3 (.int .i64 ((d.acts:Int)+1))).2.2.2;have k2:iZ B ((w.setCell ⟨b,3,none⟩ (.int .i64 ((d.acts:Int)+1))).setCell ⟨b,4,none⟩ (.int .i64 ((d.since:Int)+1))) b g vw (.slice pc d.cuts.length cc) { d with acts:=d.acts+1,since:=d.since+1 }:=k1.CF (d.since+1);have o2:=(k1.turn 4 (.int .i64 ((d.since:Int)+1))).2.2.2;have ho:=o1.trans o2;obtain hd | ⟨x,r,hd⟩:d.cuts=[]\/∃ x r,d.cuts=x :: r:=by cases d.cuts <;> simp
 ·rw[hd]at c2
  go_enter Tryz.func79,Tryz.ntmps79;go_wp2;go_ret;exact⟨rfl,⟨_,_,k2⟩,ho⟩
 ·obtain⟨bc,off,vf,rfl,hsb,hx,hy,hf⟩:=Mj 0 (by rw[hd];simp)
  rw[Nat.zero_mul,Nat.add_zero]at hx;have hx':w.cell? ⟨bc,off,none⟩=some (.int .i64 x.at_):=by rw[hx];simp[hd]
  have hlt:=hc x r hd;have hdd:decide ((d.since:Int)<x.at_)=true:=by simpa using hlt
  have hlen:d.cuts.length=r.length+1:=by rw[hd];rfl
  rw[hlen]at c2;have hz0:=(ho.mono (aag _)).lT hsb off;rw[hx']at hz0;go_enter Tryz.func79,Tryz.ntmps79;go_wp2;go_ret;exact⟨rfl,⟨_,_,k2⟩,ho⟩
theorem JE(h:aa B w b g d)(hd:d.dead=true)(n:Int):Calls Tryz.prog 100 #[.pointer (some ⟨b,0,none⟩),.int .i64 n] w fun e w'=>e=.returned (.tuple #[.string ⟨#[]⟩,.int .i64 40])/\w'=w:=by
 have hw:=dX h;rw[hd]at hw;go_enter Tryz.func100,Tryz.ntmps100;go_wp2_with (go_at_call 22;refine hw.mono ?_;rintro e w' ⟨rfl,hw'⟩;rw[hw'];clear hw');go_ret2;exact⟨rfl,rfl⟩
theorem Fg(h:aa B w b g d)(hd:d.dead=true)(n:Int)(s:ByteArray):Calls Tryz.prog 50 #[.pointer (some ⟨b,0,none⟩),.int .i64 n,.string s] w fun e w'=>e=.returned (.int .i64 40)/\w'=w:=by
 have hw:=dX h;rw[hd]at hw;go_enter Tryz.func50,Tryz.ntmps50;go_wp2_with (go_at_call 22;refine hw.mono ?_;rintro e w' ⟨rfl,hw'⟩;rw[hw'];clear hw');go_ret;exact⟨rfl,rfl⟩
theorem Fh(h:aa B w b g d)(hd:d.dead=false)(n:Int)(hn:¬ (0<=n/\n<(d.secs.length:Int))):
 Calls Tryz.prog 100 #[.pointer (some ⟨b,0,none⟩),.int .i64 n] w fun e w'=>e=.returned (.tuple #[.string ⟨#[]⟩,.int .i64 42])/\w'=w:=by
 have hw:=dX h;rw[hd]at hw;have hh:=nO h n;rw[decide_eq_false hn]at hh;go_enter Tryz.func100,Tryz.ntmps100;go_wp2_with (first
  | (go_at_call 22;refine hw.mono ?_;rintro e w' ⟨rfl,hw'⟩;rw[hw'];clear hw')
  | (go_at_call 77;refine hh.mono ?_;rintro e w' ⟨rfl,hw'⟩;rw[hw'];clear hw'))
 go_ret2;exact⟨rfl,rfl⟩
theorem CK(h:aa B w b g d)(hd:d.dead=false)(n:Int)(hn:¬ (0<=n/\n<(d.secs.length:Int)))(s:ByteArray):
 Calls Tryz.prog 50 #[.pointer (some ⟨b,0,none⟩),.int .i64 n,.string s] w fun e w'=>e=.returned (.int .i64 42)/\w'=w:=by
 have hw:=dX h;rw[hd]at hw;have hh:=nO h n;rw[decide_eq_false hn]at hh;go_enter Tryz.func50,Tryz.ntmps50;go_wp2_with (first
  | (go_at_call 22;refine hw.mono ?_;rintro e w' ⟨rfl,hw'⟩;rw[hw'];clear hw')
  | (go_at_call 77;refine hh.mono ?_;rintro e w' ⟨rfl,hw'⟩;rw[hw'];clear hw'))
 go_ret;exact⟨rfl,rfl⟩
theorem Fj(h:aa B w b g d)(hd:d.dead=false)(n:Int)(hn:0<=n/\n<(d.secs.length:Int))(s:ByteArray)(hs:256<s.size):
 Calls Tryz.prog 50 #[.pointer (some ⟨b,0,none⟩),.int .i64 n,.string s] w fun e w'=>e=.returned (.int .i64 1)/\w'=w:=by
 have hw:=dX h;rw[hd]at hw;have hh:=nO h n;rw[decide_eq_true hn]at hh;have hss:decide ((256:Int)<(s.size:Int))=true:=by simp;omega
 go_enter Tryz.func50,Tryz.ntmps50;go_wp2_with (first
  | (go_at_call 22;refine hw.mono ?_;rintro e w' ⟨rfl,hw'⟩;rw[hw'];clear hw')
  | (go_at_call 77;refine hh.mono ?_;rintro e w' ⟨rfl,hw'⟩;rw[hw'];clear hw'))
 go_ret;exact⟨rfl,rfl⟩
variable {d':Dk}
theorem Mq(h:aa B w b g d)(hd:d.dead=false)(n:Int)(hn:0<=n/\n<(d.secs.length:Int))(hact:Calls Tryz.prog 79 #[.pointer (some ⟨b,0,none⟩)] w fun e w'=>e=.returned (.int .i64 40)/\aa B w' b g d'/\On B w w'):
 Calls Tryz.prog 100 #[.pointer (some ⟨b,0,none⟩),.int .i64 n] w fun e w'=>e=.returned (.tuple #[.string ⟨#[]⟩,.int .i64 40])/\aa B w' b g d'/\On B w w':=by
 have hw:=dX h;rw[hd]at hw;have hh:=nO h n;rw[decide_eq_true hn]at hh;go_enter Tryz.func100,Tryz.ntmps100;go_wp2_with (first
  | (go_at_call 22;refine hw.mono ?_;rintro e w' ⟨rfl,hw'⟩;rw[hw'];clear hw')
  | (go_at_call 77;refine hh.mono ?_;rintro e w' ⟨rfl,hw'⟩;rw[hw'];clear hw')
  | (go_at_call 79;refine hact.mono ?_;rintro e w1 ⟨rfl,hk1,ho1⟩))
 go_ret2;exact⟨rfl,hk1,ho1⟩
def Dk.says (d:Dk) (n:Nat):ByteArray×Int:=match d.secs[n]? with
 | none=>(⟨#[]⟩,42)
 | some s=>match s.last with
  | q+1=>match d.waits[q]? with
   | none=>(⟨#[]⟩,42)
   | some x=>(x.bytes,0)
  | 0=>if s.tH then (⟨#[]⟩,41) else (s.kept,0)
theorem QI(h:aa B w b g d)(hB:B<=w.heap.size)(hd:d.dead=false)(n:Nat)(hn:n<d.secs.length)(YV:d'.waits.length<=100000)(hact:Calls Tryz.prog 79 #[.pointer (some ⟨b,0,none⟩)] w fun e w'=>e=.returned (.int .i64 0)/\aa B w' b g d'/\On B w w')(hn':n<d'.secs.length)(hl:d'.secs[n].last<=d'.waits.length):
 Calls Tryz.prog 100 #[.pointer (some ⟨b,0,none⟩),.int .i64 n] w fun e w'=>e=.returned (.tuple #[.string (d'.says n).1,.int .i64 (d'.says n).2])/\aa B w' b g d'/\On B w w':=by
 have hw:=dX h;rw[hd]at hw;have hh:=nO h (n:Int);rw[decide_eq_true (by omega)]at hh;have i1:(0:Int)<=(n:Int):=by omega
 have i2:(n:Int)<(d'.secs.length:Int):=by omega
 obtain⟨S,hS⟩:∃ S,d'.secs[n]=S:=⟨_,rfl⟩;have hsome:d'.secs[n]? = some S:=by rw[aae hn',hS]
 rw[hS]at hl;rcases hlast:S.last with _ | q
 ·cases GY:S.tH with
  | true=>
   have hv:d'.says n=(⟨#[]⟩,41):=by simp[Dk.says,hsome,hlast,GY]
   rw[hv];go_enter Tryz.func100,Tryz.ntmps100;go_wp2_with (first
    | (go_at_call 22;refine hw.mono ?_;rintro e w' ⟨rfl,hw'⟩;rw[hw'];clear hw')
    | (go_at_call 77;refine hh.mono ?_;rintro e w' ⟨rfl,hw'⟩;rw[hw'];clear hw')
    | (go_at_call 79;refine hact.mono ?_;rintro e w1 ⟨rfl,hk1,ho1⟩;obtain⟨vw,vc,k0⟩:=hk1.out;have c0:=k0.cell.1;have s0:=k0.secs.cells n hn';rw[hS,hlast,GY]at s0;obtain⟨s1,s2,s3⟩:=s0))
   go_ret2;exact⟨rfl,((Kept.refl w1).alloc _).dk hk1,ho1.alloc hB _⟩
  | false=>
   have hv:d'.says n=(S.kept,0):=by simp[Dk.says,hsome,hlast,GY]
   rw[hv];go_enter Tryz.func100,Tryz.ntmps100;go_wp2_with (first
    | (go_at_call 22;refine hw.mono ?_;rintro e w' ⟨rfl,hw'⟩;rw[hw'];clear hw')
    | (go_at_call 77;refine hh.mono ?_;rintro e w' ⟨rfl,hw'⟩;rw[hw'];clear hw')
    | (go_at_call 79;refine hact.mono ?_;rintro e w1 ⟨rfl,hk1,ho1⟩;obtain⟨vw,vc,k0⟩:=hk1.out;have c0:=k0.cell.1;have s0:=k0.secs.cells n hn';rw[hS,hlast,GY]at s0;obtain⟨s1,s2,s3⟩:=s0))
   go_ret2;exact⟨rfl,((Kept.refl w1).alloc _).dk hk1,ho1.alloc hB _⟩
 ·rw[hlast]at hl
  have hq:q<d'.waits.length:=by omega
  have hv:d'.says n=(d'.waits[q].bytes,0):=by simp[Dk.says,hsome,hlast,aae hq]
  rw[hv];have q1:(0:Int)<=(q:Int):=by omega
  have q2:(q:Int)<(d'.waits.length:Int):=by omega
  go_enter Tryz.func100,Tryz.ntmps100;go_wp2_with (first
   | (go_at_call 22;refine hw.mono ?_;rintro e w' ⟨rfl,hw'⟩;rw[hw'];clear hw')
   | (go_at_call 77;refine hh.mono ?_;rintro e w' ⟨rfl,hw'⟩;rw[hw'];clear hw')
   | (go_at_call 79;refine hact.mono ?_;rintro e w1 ⟨rfl,hk1,ho1⟩;obtain⟨vw,vc,k0⟩:=hk1.out;have c0:=k0.cell.1;have s0:=k0.secs.cells n hn';rw[hS,hlast]at s0;obtain⟨s1,s2,s3⟩:=s0;have s3':w1.cell? ⟨g,n*3+2,none⟩=some (.int .i64 ((q:Int)+1)):=s3;clear s3;obtain⟨h0,cap,e0,_,_⟩:=k0.waits.form (by omega);subst e0;have cw:=k0.cell.2.1;have r1:=k0.waits.cellAt (q*2+1) (by omega);rw[(eD d'.waits q hq).2]at r1))
  have kA:=((Kept.refl w1).alloc (.cells #[.string S.kept,.bool S.tH,.int .i64 ((q:Int)+1)] 60)).disk k0;have cwA:=kA.cell.2.1;have r1A:=kA.waits.cellAt (q*2+1) (by omega);rw[(eD d'.waits q hq).2]at r1A;go_quiet (fail);go_wp2;go_ret2;exact⟨rfl,(((Kept.refl w1).alloc _).drewN nq).dk hk1,ho1.kept (((Kept.refl w1).alloc _).drewN nq) hB⟩
theorem Mr{d1 d2:Dk}(h:aa B w b g d)(hB:B<=w.heap.size)(hd:d.dead=false)(n:Nat)(hn:n<d.secs.length)(s:ByteArray)(hs:s.size<=256)(code:Int)(hwa:∀ w1,aa B w1 b g d->B<=w1.heap.size->Calls Tryz.prog 78 #[.pointer (some ⟨b,0,none⟩),(Wr.mk n (whole s)).val] w1 fun e w2=>e=.returned (.tuple #[])/\aa B w2 b g d1/\On B w1 w2)(hact:∀ w1,aa B w1 b g d1->B<=w1.heap.size->Calls Tryz.prog 79 #[.pointer (some ⟨b,0,none⟩)] w1 fun e w2=>e=.returned (.int .i64 code)/\aa B w2 b g d2/\On B w1 w2):
 Calls Tryz.prog 50 #[.pointer (some ⟨b,0,none⟩),.int .i64 n,.string s] w fun e w'=>e=.returned (.int .i64 code)/\aa B w' b g d2/\On B w w':=by
 have hw:=dX h;rw[hd]at hw;have hh:=nO h (n:Int);rw[decide_eq_true (by omega)]at hh;have hss:decide ((256:Int)<(s.size:Int))=false:=by simp;omega
 unfold Wr.val at hwa;go_enter Tryz.func50,Tryz.ntmps50;go_wp2_with (first
  | (go_at_call 22;refine hw.mono ?_;rintro e w' ⟨rfl,hw'⟩;rw[hw'];clear hw')
  | (go_at_call 77;refine hh.mono ?_;rintro e w' ⟨rfl,hw'⟩;rw[hw'];clear hw')
  | (go_at_call 28;refine (gz s hs _).mono ?_;rintro e w1 ⟨rfl,hk1⟩)
  | (go_at_call 78;refine (hwa w1 (hk1.dk h) (aad hB hk1.size)).mono ?_;rintro e w2 ⟨rfl,hd2,ho2⟩;have WK:=(hk1.on hB).trans ho2)
  | (go_at_call 79;refine (hact w2 hd2 (aad hB WK.size)).mono ?_;rintro e w3 ⟨rfl,hd3,ho3⟩))
 go_ret;exact⟨rfl,hd3,WK.trans ho3⟩
theorem low(k m:Nat)(hk:k<=10)(h1:(BitVec.ofInt 64 (m:Int)).toNat=2 ^ k-1)(a:Int):∃ x:Nat,x<2 ^ k/\bits .and .i64 a m=(x:Int):=by
 have key:(BitVec.ofInt 64 a &&& BitVec.ofInt 64 m).toNat=(a % ((2 ^ 64:Nat):Int)).toNat % 2 ^ k:=by
  rw[BitVec.toNat_and,BitVec.toNat_ofInt,h1,Nat.and_two_pow_sub_one_eq_mod]
 have hp:2 ^ k<=2 ^ 10:=Nat.pow_le_pow_right (by decide) hk;have hl:=Nat.mod_lt (a % ((2 ^ 64:Nat):Int)).toNat (Nat.two_pow_pos k);refine⟨(a % ((2 ^ 64:Nat):Int)).toNat % 2 ^ k,hl,?_⟩;show IntKind.i64.wrap ((BitVec.ofInt 64 a &&& BitVec.ofInt 64 m).toNat:Nat)=_;rw[key,IntKind.wrap_i64];omega
def settled (l:List Wr) (f:Nat->Nat) (s:List rU):Nat->List rU
 | 0=>s
 | k+1=>match l[k]? with
  | none=>settled l f s k
  | some x=>(settled l f s k).modify x.sec (qU x (f k))
theorem kV(l:List Wr)(f:Nat->Nat)(s:List rU)(k:Nat)(h:k<l.length):settled l f s (k+1)=(settled l f s k).modify l[k].sec (qU l[k] (f k)):=by
 rw[settled,aae h]
theorem cZ(l:List Wr)(f:Nat->Nat)(s:List rU):∀ k,(settled l f s k).length=s.length
 | 0=>rfl
 | k+1=>by
  rw[settled];split
  ·exact cZ l f s k
  ·rw[List.length_modify];exact cZ l f s k
def Dk.fail (d:Dk) (c:Ct) (r:List Ct):Dk:={ d with secs:=settled d.waits (jh c) d.secs d.waits.length,waits:=[],cuts:=r,dead:=true,fails:=d.fails+1 }
theorem JF(h:aa B w b g d)(hB:B<=w.heap.size)(c:Ct)(r:List Ct)(hc:d.cuts=c :: r)(hw:d.waits.length<=100000)(hs:∀ x∈d.waits,x.sec<d.secs.length)(hf:d.fails<=100000):
 Calls Tryz.prog 109 #[.pointer (some ⟨b,0,none⟩)] w fun e w'=>e=.returned (.tuple #[])/\aa B w' b g (d.fail c r)/\On B w w':=by
 obtain⟨vw,vc,k0⟩:=h.out;obtain⟨p,cap,rfl⟩:=xK k0.waits;obtain⟨pc,cc,rfl,hcc,hcm,Mj⟩:=k0.cuts.out;have e1:=k0.cell.2.1;go_enter Tryz.func109,Tryz.ntmps109;go_wp2;go_loopg [9] d.waits.length (fun q iv wx=>∃ k:Nat,q+k=d.waits.length/\iv=.int .i64 k/\iZ B wx b g (.slice p d.waits.length cap) (.slice pc d.cuts.length cc) { d with secs:=settled d.waits (jh c) d.secs k }/\On B w wx);case atStart=>exact⟨0,rfl,rfl,k0,On.refl _ _⟩
 case round=>
  obtain⟨k,hq,rfl,hk,ho⟩:=hrel;by_cases hlt:k<d.waits.length
  ·have hd:decide ((k:Int)<(d.waits.length:Int))=true:=by simpa using hlt
   have i1:(0:Int)<=(k:Int):=by omega
   have i2:(k:Int)<(d.waits.length:Int):=by omega
   obtain⟨h0,cap',e0,_,_⟩:=hk.waits.form (by show 0<d.waits.length;omega);injection e0 with e0 _ YW
   subst e0 YW;have r0:=hk.waits.cellAt (k*2) (by show _<d.waits.length*2;omega);have r1:=hk.waits.cellAt (k*2+1) (by show _<d.waits.length*2;omega);rw[(eD d.waits k hlt).1]at r0;rw[(eD d.waits k hlt).2]at r1;obtain⟨bc,off,vf,rfl,hsb,x0,x1,hfa⟩:=Mj 0 (by rw[hc];simp);have hc0:d.cuts[0]'(by rw[hc];simp)=c:=by simp[hc]
   rw[hc0]at x0 hfa;rw[Nat.zero_mul,Nat.add_zero]at x0 x1;obtain⟨pf,cf,rfl,_⟩:=hfa.out;have hor:=ho.mono (aag B);obtain⟨UK,_⟩:=hor.sb hsb;have y0:=(hor.lT hsb off).trans x0;have y1:=(hor.lT hsb (off+1)).trans x1;have hfr:=hfa.on hor;have hlen:d.cuts.length=r.length+1:=by rw[hc];rfl
   have e2:=hk.cell.2.2.1;have hBr:=aad hB ho.size;obtain⟨X,hX⟩:∃ X,d.waits[k]=X:=⟨_,rfl⟩;have YX:X.sec<(settled d.waits (jh c) d.secs k).length:=by rw[cZ,<- hX];exact hs _ (List.getElem_mem hlt)
   rw[hX]at r0 r1;have hstep:{ d with secs:=settled d.waits (jh c) d.secs (k+1) }=({ d with secs:=settled d.waits (jh c) d.secs k }:Dk).settle X (jh c k):=by
    rw[kV _ _ _ _ hlt,hX];rfl
   obtain⟨O,hO⟩:∃ O,O=Obj.cells #[.int .i64 (X.sec:Nat),.string X.bytes] 145:=⟨_,rfl⟩;have Ff:Kept wr (wr.alloc O):=(Kept.refl wr).alloc O;have A2:=(Ff.disk hk).cell.2.2.1;have B3:=(Ff.on (aag _)).lT UK off;rw[y0]at B3;have B4:=(Ff.on (aag _)).lT UK (off+1);rw[y1]at B4;have N0:(wr.alloc O).heap[wr.heap.size]? = some O:=heap_alloc_new wr O;have A0:(wr.alloc O).cell? ⟨wr.heap.size,0,none⟩=some (.int .i64 (X.sec:Nat)):=by rw[hO]at N0 ⊢;rw[cell_of_row _ _ _ _ _ _ N0];rfl
   have A1:(wr.alloc O).cell? ⟨wr.heap.size,1,none⟩=some (.string X.bytes):=by rw[hO]at N0 ⊢;rw[cell_of_row _ _ _ _ _ _ N0];rfl
   have hko:=Ff.disk hk;have hfA:=hfr.on (Ff.on (aag _));subst hO;rw[hlen]at A2 e2;go_wp2;generalize wr.alloc (Obj.cells #[.int .i64 (X.sec:Nat),.string X.bytes] 145)=WA at *;have WL:wr.heap.size<WA.heap.size:=(aaa.1 N0).1;clear N0;have A3:WA.cell? ⟨bc,off,none⟩=some (.int .i64 c.at_):=B3;have A4:WA.cell? ⟨bc,off+1,none⟩=some (.slice pf c.fq.length cf):=B4;have hBA:=aad hBr Ff.size;have GZ:On B w WA:=ho.kept Ff hB;clear e2 y0 y1 hfr UK hor x0 x1 hsb hfa r0 r1 hk Mj Ff;go_region_with (first
    | (go_at_call 142;refine (CJ c (hfA.on (((Kept.refl WA).drew).on (aag _))) k (by omega)).mono ?_;rintro e w2 ⟨rfl,hk2⟩;have zH:Kept WA w2:=((Kept.refl WA).drew).trans hk2;have m0:=World.cell?_of_block (w:=WA) (a:=⟨wr.heap.size,0,none⟩) (zH.out.block wr.heap.size WL);rw[A0]at m0;have m1:=World.cell?_of_block (w:=WA) (a:=⟨wr.heap.size,1,none⟩) (zH.out.block wr.heap.size WL);rw[A1]at m1;have hd2:=zH.disk hko)
    | (go_at_call 110;refine (jW hd2 (aad hBA zH.size) X YX (jh c k) (JD c k)).mono ?_;rintro e w3 ⟨rfl,hd3,ho3⟩))
   all_goals
    go_wp2
    go_roundg (d.waits.length-(k+1))
    case measure=>omega
    case rel=>exact⟨k+1,by omega,by go_num,by rw[hstep];exact hd3,(GZ.kept zH hB).trans ho3⟩
  ·have hd:decide ((k:Int)<(d.waits.length:Int))=false:=by simpa using hlt
   obtain rfl:k=d.waits.length:=by omega
   have hlen:d.cuts.length=r.length+1:=by rw[hc];rfl
   have hor:=ho.mono (aag B);obtain⟨bc,off,vf,rfl,hsb,x0,x1,hfa⟩:=Mj 0 (by rw[hc];simp);have Wq:=(Kept.refl wr).drew.disk hk;obtain⟨c0,c1,c2,c3,c4,c5,c6⟩:=hk.cell;have f1:=hk.frozen 1;have f2:=hk.frozen 2;have f5:=hk.frozen 5;have f6:=hk.frozen 6;have k1:=Wq.GX;have o1:=(Wq.turn 1 (.slice none 0 0)).2.2.2;have hcut:∃ v',fJ 0 wr.drew v' r/\v'=.slice (if cc=1 then some ⟨bc,off,none⟩ else some ⟨bc,off+2,none⟩) r.length (cc-1):=by
    refine⟨_,⟨_,_,rfl,by rw[hlen]at hcc;omega,by omega,fun j hj=>?_⟩,rfl⟩;rw[hlen]at hcc;rw[aai (by omega)];obtain⟨b',off',vf',e',hs',y0,y1,hf'⟩:=Mj (j+1) (by rw[hlen];omega);injection e' with e'
    injection e' with e1 e2
    subst e1 e2;have hel:d.cuts[j+1]'(by rw[hlen];omega)=r[j]:=by simp[hc]
    rw[hel]at y0 hf';have LM:On 0 w wr.drew:=hor.drew;refine⟨bc,off+2,vf',rfl,(LM.sb hs').1,?_,?_,hf'.on LM⟩
    ·rw[show off+2+j*2=off+(j+1)*2 by omega,LM.lT hs'];exact y0
    ·rw[show off+2+j*2+1=off+(j+1)*2+1 by omega,LM.lT hs'];exact y1
   obtain⟨v',hv',ev'⟩:=hcut;have k2:=k1.Qz v' r (hv'.on (o1.mono (aag _)));have o2:=(k1.turn 2 v').2.2.2;have k3:=k2.Qy true;have o3:=(k2.turn 6 (.bool true)).2.2.2;have k4:iZ B _ b g _ _ _:=k3.Ml (d.fails+1);have o4:=(k3.turn 5 (.int .i64 ((d.fails+1:Nat):Int))).2.2.2;have hoF:=((((ho.drew).trans o1).trans o2).trans o3).trans o4;rw[hlen]at c2;have i1:(1:Int)<=(r.length:Int)+1:=by omega
   go_wp2;go_region;rw[<- ev'];clear ev';go_wp2;first | go_end0 | refine bodyPost_ret (results_none rfl _ _ _) rfl ?_
   exact⟨rfl,⟨_,_,k4⟩,hoF⟩
def Dk.begin (d:Dk):Dk:={ d with acts:=d.acts+1,since:=d.since+1 }
theorem QJ(h:aa B w b g d)(hB:B<=w.heap.size)(ha:d.acts<=100000)(hs:d.since<=100000)(hf:d.fails<=100000)(c:Ct)(r:List Ct)(hc:d.cuts=c :: r)(hlt:¬ (d.since:Int)<c.at_)(hw:d.waits.length<=100000)(hx:∀ x∈d.waits,x.sec<d.secs.length):
 Calls Tryz.prog 79 #[.pointer (some ⟨b,0,none⟩)] w fun e w'=>e=.returned (.int .i64 40)/\aa B w' b g (d.begin.fail c r)/\On B w w':=by
 obtain⟨vw,vc,k0⟩:=h.out;obtain⟨pc,cc,rfl,hcc,hcm,Mj⟩:=k0.cuts.out;obtain⟨c0,c1,c2,c3,c4,c5,c6⟩:=k0.cell;have f3:=k0.frozen 3;have f4:=k0.frozen 4;have k1:iZ B (w.setCell ⟨b,3,none⟩ (.int .i64 ((d.acts:Int)+1))) b g vw (.slice pc d.cuts.length cc) { d with acts:=d.acts+1 }:=k0.GV (d.acts+1);have o1:=(k0.turn 3 (.int .i64 ((d.acts:Int)+1))).2.2.2;have k2:iZ B ((w.setCell ⟨b,3,none⟩ (.int .i64 ((d.acts:Int)+1))).setCell ⟨b,4,none⟩ (.int .i64 ((d.since:Int)+1))) b g vw (.slice pc d.cuts.length cc) d.begin:=k1.CF (d.since+1);have o2:=(k1.turn 4 (.int .i64 ((d.since:Int)+1))).2.2.2;have ho:=o1.trans o2;obtain⟨bc,off,vf,rfl,hsb,hx0,hy,hfa⟩:=Mj 0 (by rw[hc];simp);rw[Nat.zero_mul,Nat.add_zero]at hx0;have hx':w.cell? ⟨bc,off,none⟩=some (.int .i64 c.at_):=by rw[hx0];simp[hc]
 have hdd:decide ((d.since:Int)<c.at_)=false:=by simpa using hlt
 have hlen:d.cuts.length=r.length+1:=by rw[hc];rfl
 rw[hlen]at c2;have hz0:=(ho.mono (aag _)).lT hsb off;rw[hx']at hz0;have WM:=JF ⟨_,_,k2⟩ (aad hB ho.size) c r hc hw hx hf;clear k1 o1 o2 Mj k0;go_enter Tryz.func79,Tryz.ntmps79;go_wp2_with (go_at_call 109;refine WM.mono ?_;rintro e w3 ⟨rfl,hd3,ho3⟩);go_ret;exact⟨rfl,hd3,ho.trans ho3⟩
theorem Fp(h:aa B w b g d)(hd:d.dead=true):Calls Tryz.prog 80 #[.pointer (some ⟨b,0,none⟩)] w fun e w'=>e=.returned (.int .i64 40)/\w'=w:=by
 have hw:=dX h;rw[hd]at hw;go_enter Tryz.func80,Tryz.ntmps80;go_wp2_with (go_at_call 22;refine hw.mono ?_;rintro e w' ⟨rfl,hw'⟩;rw[hw'];clear hw');go_ret;exact⟨rfl,rfl⟩
theorem JG(h:aa B w b g d)(hd:d.dead=false)(hact:Calls Tryz.prog 79 #[.pointer (some ⟨b,0,none⟩)] w fun e w'=>e=.returned (.int .i64 40)/\aa B w' b g d'/\On B w w'):
 Calls Tryz.prog 80 #[.pointer (some ⟨b,0,none⟩)] w fun e w'=>e=.returned (.int .i64 40)/\aa B w' b g d'/\On B w w':=by
 have hw:=dX h;rw[hd]at hw;go_enter Tryz.func80,Tryz.ntmps80;go_wp2_with (first
  | (go_at_call 22;refine hw.mono ?_;rintro e w' ⟨rfl,hw'⟩;rw[hw'];clear hw')
  | (go_at_call 79;refine hact.mono ?_;rintro e w1 ⟨rfl,hk1,ho1⟩))
 go_ret;exact⟨rfl,hk1,ho1⟩
def Dk.good (d:Dk):Dk:={ d with secs:=settled d.waits (fun _=>1) d.secs d.waits.length,waits:=[] }
theorem Ms(h:aa B w b g d)(hB:B<=w.heap.size)(hd:d.dead=false)(hact:Calls Tryz.prog 79 #[.pointer (some ⟨b,0,none⟩)] w fun e w'=>e=.returned (.int .i64 0)/\aa B w' b g d'/\On B w w')(hw:d'.waits.length<=100000)(hs:∀ x∈d'.waits,x.sec<d'.secs.length):
 Calls Tryz.prog 80 #[.pointer (some ⟨b,0,none⟩)] w fun e w'=>e=.returned (.int .i64 0)/\aa B w' b g d'.good/\On B w w':=by
 have hwd:=dX h;rw[hd]at hwd;go_enter Tryz.func80,Tryz.ntmps80;go_wp2_with (first
  | (go_at_call 22;refine hwd.mono ?_;rintro e w' ⟨rfl,hw'⟩;rw[hw'];clear hw')
  | (go_at_call 79;refine hact.mono ?_;rintro e w1 ⟨rfl,hk1,ho1⟩;obtain⟨vw,vc,k0⟩:=hk1.out;obtain⟨p,cap,ep⟩:=xK k0.waits;subst ep;have e1:=k0.cell.2.1))
 clear hact hwd h;go_loopg [18] d'.waits.length (fun q iv wx=>∃ k:Nat,q+k=d'.waits.length/\iv=.int .i64 k/\iZ B wx b g (.slice p d'.waits.length cap) vc { d' with secs:=settled d'.waits (fun _=>1) d'.secs k }/\On B w wx);case atStart=>exact⟨0,rfl,rfl,k0,ho1⟩
 case round=>
  obtain⟨k,hq,rfl,hk,ho⟩:=hrel;by_cases hlt:k<d'.waits.length
  ·have hd:decide ((k:Int)<(d'.waits.length:Int))=true:=by simpa using hlt
   have i1:(0:Int)<=(k:Int):=by omega
   have i2:(k:Int)<(d'.waits.length:Int):=by omega
   obtain⟨h0,cap',e0,_,_⟩:=hk.waits.form (by show 0<d'.waits.length;omega);injection e0 with e0 _ YW
   subst e0 YW;have r0:=hk.waits.cellAt (k*2) (by show _<d'.waits.length*2;omega);have r1:=hk.waits.cellAt (k*2+1) (by show _<d'.waits.length*2;omega);rw[(eD d'.waits k hlt).1]at r0;rw[(eD d'.waits k hlt).2]at r1;obtain⟨X,hX⟩:∃ X,d'.waits[k]=X:=⟨_,rfl⟩;have YX:X.sec<(settled d'.waits (fun _=>1) d'.secs k).length:=by rw[cZ,<- hX];exact hs _ (List.getElem_mem hlt)
   rw[hX]at r0 r1;have hstep:{ d' with secs:=settled d'.waits (fun _=>1) d'.secs (k+1) }=({ d' with secs:=settled d'.waits (fun _=>1) d'.secs k }:Dk).settle X 1:=by
    rw[kV _ _ _ _ hlt,hX];rfl
   have Ff:Kept wr (wr.alloc (Obj.cells #[.int .i64 (X.sec:Nat),.string X.bytes] 145)):=(Kept.refl wr).alloc _;have GZ:=ho.kept Ff hB;have hset:=jW (Ff.disk hk) (aad hB GZ.size) X YX 1 (by omega);unfold Wr.val at hset;clear e1 k0 ho1 hk1;go_wp2_with (go_at_call 110;refine hset.mono ?_;rintro e w3 ⟨rfl,hd3,ho3⟩);go_roundg (d'.waits.length-(k+1));case measure=>omega
   case rel=>exact⟨k+1,by omega,by go_num,by rw[hstep];exact hd3,GZ.trans ho3⟩
  ·have hd:decide ((k:Int)<(d'.waits.length:Int))=false:=by simpa using hlt
   obtain rfl:k=d'.waits.length:=by omega
   have c1:=hk.cell.2.1;have f1:=hk.frozen 1;have k1:=hk.GX;have o1:=(hk.turn 1 (.slice none 0 0)).2.2.2;clear e1 k0 ho1 hk1;go_wp2;go_ret;exact⟨rfl,⟨_,_,k1⟩,ho.trans o1⟩
structure Ok (m:Nat) (d:Dk):Prop where
 secs:∀ x∈d.waits,x.sec<d.secs.length
 last:∀ i (h:i<d.secs.length) q,d.secs[i].last=q+1->∃ hq:q<d.waits.length,d.waits[q].sec=i
 waits:d.waits.length<=d.acts
 acts:d.acts<=m
 since:d.since<=d.acts
 fails:d.fails<=d.acts
def Dk.wait (d:Dk) (x:Wr):Dk:=match d.secs[x.sec]? with
 | none=>d
 | some s=>if s.last<=d.ql then { d with waits:=d.waits++[x],secs:=d.secs.modify x.sec fun s=>{ s with last:=d.waits.length+1 } } else { d with waits:=d.waits.set (s.last-1) x }
def Dk.act (d:Dk):Dk×Bool:=match d.cuts with
 | []=>(d.begin,false)
 | c :: r=>if (d.since:Int)<c.at_ then (d.begin,false) else (d.begin.fail c r,true)
def Dk.write (d:Dk) (n:Int) (s:ByteArray):Dk×Int:=
 if d.dead then (d,40) else if ¬ (0<=n/\n<(d.secs.length:Int)) then (d,42) else if 256<s.size then (d,1) else
  (((d.wait ⟨n.toNat,whole s⟩).act).1,if ((d.wait ⟨n.toNat,whole s⟩).act).2 then 40 else 0)
def Dk.read (d:Dk) (n:Int):Dk×ByteArray×Int:=
 if d.dead then (d,⟨#[]⟩,40) else if ¬ (0<=n/\n<(d.secs.length:Int)) then (d,⟨#[]⟩,42) else
  if d.act.2 then (d.act.1,⟨#[]⟩,40) else (d.act.1,d.act.1.says n.toNat)
def Dk.flush (d:Dk):Dk×Int:=if d.dead then (d,40) else if d.act.2 then (d.act.1,40) else (d.act.1.good,0)
theorem tJ(l:List Wr)(f:Nat->Nat)(s:List rU):∀ k,k<=l.length->∀ i (h:i<(settled l f s k).length) (h':i<s.length),(s[i].last=0\/∃ j,∃ hj:j<l.length,j<k/\l[j].sec=i)->(settled l f s k)[i].last=0
 | 0,_,i,h,h',hc=>by
  rcases hc with hc | ⟨j,_,hj,_⟩
  ·exact hc
  ·omega
 | k+1,hk,i,h,h',hc=>by
  have hi:i<(settled l f s k).length:=by rw[cZ]at h ⊢;exact h
  have e:=kV l f s k (by omega);simp only[e]at h ⊢;rw[List.getElem_modify];split
  ·unfold qU;split <;> rfl
  ·rename_i hne
   refine tJ l f s k (by omega) i hi h' ?_;rcases hc with hc | ⟨j,hjl,hj,he⟩
   ·exact .inl hc
   ·exact .inr ⟨j,hjl,by have:j≠k:=(by intro ejk;subst ejk;exact hne he);omega,he⟩
theorem tL(h:Ok m d)(f:Nat->Nat)(i:Nat)(hi:i<(settled d.waits f d.secs d.waits.length).length):(settled d.waits f d.secs d.waits.length)[i].last=0:=by
 have hi':i<d.secs.length:=by rwa [cZ]at hi
 refine tJ _ _ _ _ (aac _) i hi hi' ?_;rcases hl:d.secs[i].last with _ | q
 ·exact .inl rfl
 ·obtain⟨hq,he⟩:=h.last i hi' q hl
  exact .inr ⟨q,hq,hq,he⟩
theorem QK(h:Ok m d)(c:Ct)(r:List Ct)(hf:d.fails+1<=d.acts):Ok m (d.fail c r):=
 ⟨fun x hx=>by simp[Dk.fail]at hx,fun i hi q hq=>by rw[show (d.fail c r).secs[i].last=0 from tL h _ i hi]at hq;omega,aag _,h.acts,h.since,hf⟩
theorem QL(h:Ok m d):Ok m d.good:=
 ⟨fun x hx=>by simp[Dk.good]at hx,fun i hi q hq=>by rw[show d.good.secs[i].last=0 from tL h _ i hi]at hq;omega,aag _,h.acts,h.since,h.fails⟩
structure Ws (m:Nat) (d:Dk):Prop where
 secs:∀ x∈d.waits,x.sec<d.secs.length
 last:∀ i (h:i<d.secs.length) q,d.secs[i].last=q+1->∃ hq:q<d.waits.length,d.waits[q].sec=i
 waits:d.waits.length<=d.acts+1
 acts:d.acts<=m
 since:d.since<=d.acts
 fails:d.fails<=d.acts
theorem Ok.Qk(h:Ok m d):Ws m d:=⟨h.secs,h.last,Nat.le_succ_of_le h.waits,h.acts,h.since,h.fails⟩
theorem lI(h:Ws m d):Ok (m+1) d.begin:=⟨h.secs,h.last,h.waits,Nat.succ_le_succ h.acts,Nat.succ_le_succ h.since,Nat.le_succ_of_le h.fails⟩
theorem Bc(h:Ws m d):Ok (m+1) d.act.1:=by
 unfold Dk.act;split
 ·exact lI h
 ·split
  ·exact lI h
  ·exact QK (lI h) _ _ (Nat.succ_le_succ h.fails)
theorem Bd(h:Ok m d)(x:Wr)(hx:x.sec<d.secs.length):Ws m (d.wait x):=by
 unfold Dk.wait;rw[aae hx];dsimp only;split
 ·refine⟨fun y hy=>?_,fun i hi q hq=>?_,?_,h.acts,h.since,h.fails⟩
  ·simp only[aav,List.mem_singleton]at hy
   rw[List.length_modify];rcases hy with hy | rfl
   ·exact h.secs y hy
   ·exact hx
  ·have hi':i<d.secs.length:=by simpa using hi
   simp only[List.getElem_modify]at hq;split at hq
   ·rename_i he
    have hq':q=d.waits.length:=by simp only at hq;omega
    subst hq';exact⟨by simp,by simpa using he⟩
   ·obtain⟨hl,he⟩:=h.last i hi' q hq
    exact⟨by simp;omega,by simp only[List.getElem_append_left hl];exact he⟩
  ·simp only[aah,List.length_singleton];exact Nat.succ_le_succ h.waits
 ·rename_i hl
  refine⟨fun y hy=>?_,fun i hi q hq=>?_,by rw[List.length_set];exact Nat.le_succ_of_le h.waits,h.acts,h.since,h.fails⟩
  ·rcases List.mem_or_eq_of_mem_set hy with hy | rfl
   ·exact h.secs y hy
   ·exact hx
  ·obtain⟨hq1,he⟩:=h.last i hi q hq
   refine⟨by rw[List.length_set];exact hq1,?_⟩;rw[List.getElem_set];split
   ·rename_i hz
    rcases hlx:d.secs[x.sec].last with _ | q'
    ·rw[hlx]at hl;omega
    ·obtain⟨hq2,he2⟩:=h.last x.sec hx q' hlx
     rw[hlx]at hz;simp only[Nat.add_sub_cancel]at hz;subst hz;exact he2.symm.trans he
   ·exact he
theorem JH(h:aa B w b g d)(hB:B<=w.heap.size)(ok:Ok m d)(hm:m<=50000)(x:Wr)(hx:x.sec<d.secs.length):
 Calls Tryz.prog 78 #[.pointer (some ⟨b,0,none⟩),x.val] w fun e w'=>e=.returned (.tuple #[])/\aa B w' b g (d.wait x)/\On B w w':=by
 have hw:d.waits.length<=100000:=by have:=ok.waits;have:=ok.acts;omega
 have he:d.wait x=if d.secs[x.sec].last<=d.ql then { d with waits:=d.waits++[x],secs:=d.secs.modify x.sec fun s=>{ s with last:=d.waits.length+1 } } else { d with waits:=d.waits.set (d.secs[x.sec].last-1) x }:=by
  unfold Dk.wait;rw[aae hx]
 have hl1:d.secs[x.sec].last<=d.waits.length:=by
  rcases hl:d.secs[x.sec].last with _ | q
  ·exact aag _
  ·obtain⟨hq,_⟩:=ok.last x.sec hx q hl;omega
 rw[he];split
 ·rename_i hl
  exact JC h hB x hx hw (by omega) hl
 ·rename_i hl
  rcases hlx:d.secs[x.sec].last with _ | q
  ·rw[hlx]at hl;omega
  ·have:=Jz h hB x hx q hlx (by omega) hw (by omega)
   rw[Nat.add_sub_cancel];exact this
theorem xL(h:aa B w b g d)(hB:B<=w.heap.size)(ok:Ws m d)(hm:m<=50000):
 Calls Tryz.prog 79 #[.pointer (some ⟨b,0,none⟩)] w fun e w'=>e=.returned (.int .i64 (if d.act.2 then 40 else 0))/\aa B w' b g d.act.1/\On B w w':=by
 have h1:=ok.acts;have h2:=ok.since;have h3:=ok.fails;have h4:=ok.waits;obtain hd | ⟨c,r,hd⟩:d.cuts=[]\/∃ x r,d.cuts=x :: r:=by cases d.cuts <;> simp
 ·have e:d.act=(d.begin,false):=by simp[Dk.act,hd]
  rw[e];exact Mm h (by omega) (by omega) (by rw[hd];simp)
 ·by_cases hlt:(d.since:Int)<c.at_
  ·have e:d.act=(d.begin,false):=by simp[Dk.act,hd,hlt]
   rw[e];exact Mm h (by omega) (by omega) (by rw[hd];intro c' r' e';injection e' with e1 _;subst e1;exact hlt)
  ·have e:d.act=(d.begin.fail c r,true):=by simp[Dk.act,hd,hlt]
   rw[e];exact QJ h hB (by omega) (by omega) (by omega) c r hd hlt (by omega) ok.secs
theorem jI(h:aa B w b g d)(hB:B<=w.heap.size)(ok:Ok m d)(hm:m<=50000)(n:Int)(s:ByteArray):
 Calls Tryz.prog 50 #[.pointer (some ⟨b,0,none⟩),.int .i64 n,.string s] w fun e w'=>e=.returned (.int .i64 (d.write n s).2)/\aa B w' b g (d.write n s).1/\On B w w':=by
 unfold Dk.write;cases hd:d.dead with
 | true=>
  refine (Fg h hd n s).mono ?_;rintro e w' ⟨rfl,rfl⟩;exact⟨rfl,h,On.refl _ _⟩
 | false=>
  by_cases hn:0<=n/\n<(d.secs.length:Int)
  ·by_cases hs:256<s.size
   ·rw[aai (by simp),aai (by simpa using hn),aao hs]
    refine (Fj h hd n hn s hs).mono ?_;rintro e w' ⟨rfl,rfl⟩;exact⟨rfl,h,On.refl _ _⟩
   ·simp only[hn,hs,and_self,not_true_eq_false,if_false,Bool.false_eq_true]
    obtain⟨k,rfl⟩:=Int.eq_ofNat_of_zero_le hn.1;have hk:k<d.secs.length:=by omega
    exact Mr h hB hd k hk s (by omega) _ (fun w1 h1 hB1=>JH h1 hB1 ok hm ⟨k,whole s⟩ hk) (fun w1 h1 hB1=>xL h1 hB1 (Bd ok ⟨k,whole s⟩ hk) hm)
  ·rw[aai (by simp),aao hn]
   refine (CK h hd n hn s).mono ?_;rintro e w' ⟨rfl,rfl⟩;exact⟨rfl,h,On.refl _ _⟩
theorem jJ(h:aa B w b g d)(hB:B<=w.heap.size)(ok:Ok m d)(hm:m<=50000)(n:Int):
 Calls Tryz.prog 100 #[.pointer (some ⟨b,0,none⟩),.int .i64 n] w fun e w'=>e=.returned (.tuple #[.string (d.read n).2.1,.int .i64 (d.read n).2.2])/\aa B w' b g (d.read n).1/\On B w w':=by
 unfold Dk.read;cases hd:d.dead with
 | true=>
  refine (JE h hd n).mono ?_;rintro e w' ⟨rfl,rfl⟩;exact⟨rfl,h,On.refl _ _⟩
 | false=>
  by_cases hn:0<=n/\n<(d.secs.length:Int)
  ·have hact:=xL h hB ok.Qk hm
   have hok:=Bc ok.Qk;cases ha:d.act.2 with
   | true=>
    rw[ha]at hact;simp only[hn,and_self,not_true_eq_false,if_false,if_true,Bool.false_eq_true];exact Mq h hd n hn hact
   | false=>
    rw[ha]at hact;simp only[hn,and_self,not_true_eq_false,if_false,Bool.false_eq_true];obtain⟨k,rfl⟩:=Int.eq_ofNat_of_zero_le hn.1;have hk:k<d.secs.length:=by omega
    have hk':k<d.act.1.secs.length:=by
     have:d.act.1.secs.length=d.secs.length:=by
      unfold Dk.act;split
      ·rfl
      ·split
       ·rfl
       ·exact cZ _ _ _ _
     omega
    have hw:=hok.waits;have ha':=hok.acts;refine QI h hB hd k hk (by omega) hact hk' ?_;rcases hl:d.act.1.secs[k].last with _ | q
    ·exact aag _
    ·obtain⟨hq,_⟩:=hok.last k hk' q hl;omega
  ·rw[aai (by simp),aao hn]
   refine (Fh h hd n hn).mono ?_;rintro e w' ⟨rfl,rfl⟩;exact⟨rfl,h,On.refl _ _⟩
theorem xM(h:aa B w b g d)(hB:B<=w.heap.size)(ok:Ok m d)(hm:m<=50000):
 Calls Tryz.prog 80 #[.pointer (some ⟨b,0,none⟩)] w fun e w'=>e=.returned (.int .i64 d.flush.2)/\aa B w' b g d.flush.1/\On B w w':=by
 unfold Dk.flush;cases hd:d.dead with
 | true=>
  refine (Fp h hd).mono ?_;rintro e w' ⟨rfl,rfl⟩;exact⟨rfl,h,On.refl _ _⟩
 | false=>
  have hact:=xL h hB ok.Qk hm;have hok:=Bc ok.Qk;have hw:=hok.waits;have ha':=hok.acts;cases ha:d.act.2 with
  | true=>
   rw[ha]at hact;exact JG h hd hact
  | false=>
   rw[ha]at hact;exact Ms h hB hd hact (by omega) hok.secs
theorem rG(l:List Wr)(f:Nat->Nat)(s:List rU)(n:Nat)(h:∀ x∈l,x.sec≠n):∀ k,(settled l f s k)[n]? = s[n]?
 | 0=>rfl
 | k+1=>by
  have ih:=rG l f s n h k;cases hx:l[k]? with
  | none=>simp only[settled,hx];exact ih
  | some x=>
   simp only[settled,hx];rw[List.getElem?_modify_ne _ _ (h x (aak hx))];exact ih
theorem vS(d:Dk)(x:Wr):(d.wait x).cuts=d.cuts/\(d.wait x).acts=d.acts/\(d.wait x).since=d.since/\(d.wait x).fails=d.fails/\(d.wait x).dead=d.dead/\(d.wait x).secs.length=d.secs.length:=by
 unfold Dk.wait;split
 ·simp
 ·split <;> simp
theorem Fq(d:Dk)(x:Wr)(n:Nat)(h:x.sec≠n):(d.wait x).secs[n]? = d.secs[n]?:=by
 unfold Dk.wait;split
 ·rfl
 ·split
  ·exact List.getElem?_modify_ne _ _ h
  ·rfl
theorem Mt(d:Dk)(x y:Wr)(h:y∈(d.wait x).waits):y∈d.waits\/y=x:=by
 unfold Dk.wait at h;split at h
 ·exact .inl h
 ·split at h
  ·simpa using h
  ·exact List.mem_or_eq_of_mem_set h
structure Kp (n:Nat) (T:ByteArray) (c:Ct) (i:Nat) (d:Dk):Prop where
 len:d.secs.length=9
 sec:d.secs[n]? = some ⟨T,false,0⟩
 eight:∀ x∈d.waits,x.sec=8
 cuts:d.cuts=[c]
 since:d.since=2+i
 fails:d.fails=0
 dead:d.dead=false
 ok:Ok (2+i) d
structure Kq (n:Nat) (T:ByteArray) (d:Dk):Prop where
 len:d.secs.length=9
 sec:d.secs[n]? = some ⟨T,false,0⟩
 cuts:d.cuts=[]
 fails:d.fails=1
 ok:Ok 20 d
theorem Mv(hd:d.dead=false)(hl:d.secs.length=9)(n:Nat)(hn:n<9)(s:ByteArray)(hs:s.size<=256):d.write (n:Nat) s=(((d.wait ⟨n,whole s⟩).act).1,if ((d.wait ⟨n,whole s⟩).act).2 then 40 else 0):=by
 unfold Dk.write;rw[aai (by simp[hd]),aai (by rw[hl];omega),aai (by omega)];rfl
theorem Kp.step{T:ByteArray}{c:Ct}{i:Nat}(h:Kp n T c i d)(hn:n<8)(hi:((2+i:Nat):Int)<c.at_)(s:ByteArray)(hs:s.size<=256):Kp n T c (i+1) (d.write ((8:Nat):Int) s).1:=by
 rw[Mv h.dead h.len 8 (by omega) s hs];obtain⟨e1,e2,e3,e4,e5,e6⟩:=vS d ⟨8,whole s⟩;have hx:(⟨8,whole s⟩:Wr).sec<d.secs.length:=by rw[h.len];show 8<9;decide
 have ea:(d.wait ⟨8,whole s⟩).act=((d.wait ⟨8,whole s⟩).begin,false):=by
  unfold Dk.act;rw[e1,h.cuts];dsimp only;rw[aao (by rw[e3,h.since];exact hi)]
 rw[ea];refine⟨e6.trans h.len,?_,fun x hx=>?_,e1.trans h.cuts,?_,e4.trans h.fails,e5.trans h.dead,lI (Bd h.ok ⟨8,whole s⟩ hx)⟩
 ·show (d.wait ⟨8,whole s⟩).secs[n]? = _
  rw[Fq _ _ _ (by show 8≠n;omega)];exact h.sec
 ·rcases Mt d _ x hx with hx | rfl
  ·exact h.eight x hx
  ·rfl
 ·show (d.wait ⟨8,whole s⟩).since+1=_
  rw[e3,h.since];omega
theorem UL(n:Nat)(l:List Ct):Ok 0 (Dk.new n l):=
 ⟨fun x hx=>by simp[Dk.new]at hx,fun i hi q hq=>by simp[Dk.new]at hq,aac _,aac _,aac _,aac _⟩
theorem QM:Quiet 66:=by unfold Quiet;decide
theorem QN:Quiet 60:=by unfold Quiet;decide
theorem Mw:Quiet 145:=by unfold Quiet;decide
theorem aa.frame(h:aa B w b g d)(hs:∀ (k:Nat) (cs:Array Value) (t:TypeId) (fr:Nat×Nat),w.heap[k]? = some (.cells cs t fr)->Quiet t->w'.heap[k]? = some (.cells cs t fr)):aa B w' b g d:=by
 obtain⟨vw,vc,k⟩:=h.out;obtain⟨cur,hg,hc⟩:=k.secs.out;refine⟨vw,vc,⟨hs _ _ _ _ k.blk QM,⟨cur,hs _ _ _ _ hg QN,hc⟩,⟨k.waits.1,?_⟩,?_,k.xz,k.Jw⟩⟩
 ·rcases k.waits.2 with h1 | ⟨r,cap,cu,e1,e2,e3,e4⟩
  ·exact .inl h1
  ·exact .inr ⟨r,cap,cu,e1,e2,hs _ _ _ _ e3 Mw,e4⟩
 ·have WN:∀ x,Sb 0 w x->Sb 0 w' x/\w'.heap[x]? = w.heap[x]?:=by
   intro x hx;rcases hx with hx | ⟨cs,t,fr,h1,h2,h3⟩
   ·exact absurd hx (by omega)
   ·have:=hs _ _ _ _ h1 h3
    exact⟨.inr ⟨cs,t,fr,this,h2,h3⟩,this.trans h1.symm⟩
  obtain⟨p,c,hv,h1,h2,h3⟩:=k.cuts.out
  refine⟨p,c,hv,h1,h2,fun j hj=>?_⟩
  obtain⟨bb,off,vf,hp,hb,hx,hy,hf⟩:=h3 j hj
  refine⟨bb,off,vf,hp,(WN _ hb).1,(World.cell?_of_block (w:=w) (WN _ hb).2).trans hx,(World.cell?_of_block (w:=w) (WN _ hb).2).trans hy,?_⟩
  obtain⟨p',c',hv',h4⟩:=hf.out
  refine⟨p',c',hv',fun i hi=>?_⟩
  obtain⟨b2,YY,hp2,hb2,hx2⟩:=h4 i hi
  exact⟨b2,YY,hp2,(WN _ hb2).1,(World.cell?_of_block (w:=w) (WN _ hb2).2).trans hx2⟩
