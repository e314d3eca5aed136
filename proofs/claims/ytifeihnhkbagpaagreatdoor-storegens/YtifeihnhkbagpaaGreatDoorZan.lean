/- Joined. -/
import Derived.Test.YtifeihnhkbagpaaGreatDoorZal
import Derived.Deep.WholeRow
import Derived.Laws.Rows
import Derived.Laws.Tables
set_option maxRecDepth 100000
namespace Go.Proofs.YtifeihnhkbagpaaGreatDoor.P
open ChangeShapes WideShapes ChangeAt RowKit
open Chk
def tab (f:Nat->Nat):Array Value:=((List.range 256).map fun i=>Value.int .u32 (f i:Nat)).toArray
theorem jk(f:Nat->Nat):(tab f).size=256:=by simp[tab]
theorem rZ(f:Nat->Nat){k:Nat}(h:k<256):(tab f)[k]? = some (.int .u32 (f k:Nat)):=by
 simp[tab,List.getElem?_range h]
theorem G9(f:Nat->Nat)(k v:Nat):(tab f).setIfInBounds k (.int .u32 v)=tab (fun i=>if i=k then v else f i):=by
 apply Array.ext_getElem?;intro i;rw[Array.getElem?_setIfInBounds];by_cases hi:i<256
 ·rw[rZ _ hi,rZ _ hi,jk]
  by_cases h:k=i
  ·subst h;simp[hi]
  ·have h':¬ i=k:=fun e=>h e.symm
   simp[h,h']
 ·have h1:(tab f)[i]? = none:=by rw[Array.getElem?_eq_none_iff,jk];omega
  have h2:(tab (fun i=>if i=k then v else f i))[i]? = none:=by rw[Array.getElem?_eq_none_iff,jk];omega
  rw[h1,h2,jk];by_cases h:k=i
  ·subst h;simp[hi]
  ·simp[h]
theorem JQ{f g:Nat->Nat}(h:∀ k,k<256->f k=g k):tab f=tab g:=by
 unfold tab;congr 1;apply List.map_congr_left;intro i hi;rw[h i (by simpa using hi)]
theorem Ha(f:Nat->Nat):(tab f).all (·.oneCell')=true:=by
  rw[Array.all_eq_true_iff_forall_mem];intro v hv;simp[tab]at hv;obtain⟨i,_,rfl⟩:=hv;rfl
theorem He:(Tryz.prog.info? 278).map (fun i=>(i.zero,i.size))=some (some (.agg (tab fun _=>0)),256):=by kernel_rfl
theorem Hg(w:World):(zeroValue 278).run Tryz.prog w=.ok (.agg (tab fun _=>0)) w:=(zero_of_info He).1 w
theorem Hl:(Tryz.prog.info? 278).map (·.size)=some 256:=(zero_of_info He).2
def low (i:Nat):Nat:=(bits .and .i64 (i:Int) (-(i:Int))).toNat
theorem JR:∀ i:Nat,i<256->bits .and .i64 (i:Int) (-(i:Int))=((low i:Nat):Int)/\bits .xor .i64 (i:Int) (low i:Nat)=((i ^^^ low i:Nat):Int)/\low i<256 /\
  (i=0/\low i=0\/(∃ m:Nat,m<8/\low i=128 / 2 ^ m)/\i ^^^ low i<i):=by decide +kernel
theorem powers:∀ m:Nat,m<8->It m 3988292384=It 8 (128 / 2 ^ m):=by decide +kernel
theorem uh(w:World)(o:Obj)(g:Nat)(c:Array Value)(h:g<w.heap.size):(w.alloc o).setRow g c=(w.setRow g c).alloc o:=by
 simp only[World.setRow,World.alloc];congr 1;apply Array.ext_getElem?;intro i;rw[Array.getElem?_modify,Array.getElem?_push,Array.getElem?_push,Array.getElem?_modify,Array.size_modify];by_cases hi:i=w.heap.size
 ·have:¬ g=i:=by omega
  simp[hi];omega
 ·simp[hi]
theorem Bp(w:World):
 Calls Tryz.prog 202 #[] w fun e w'=>e=.returned (.agg (tab (It 8)))/\Kept w w':=by
  have QT:=Hg;go_enter Tryz.func202,Tryz.ntmps202;go_wp2;go_loopg [2,3] 8 (fun g c b wx=>∃ (j:Nat) (f:Nat->Nat),j+g=8/\b=.int .i64 (128 / 2 ^ j:Nat)/\c=.int .u32 (It j 3988292384:Nat) /\
    wx=(w.alloc (.cells (tab fun _=>0) 278)).alloc (.cells (tab f) 278)/\f 0=0/\∀ m,m<j->f (128 / 2 ^ m)=It m 3988292384)
  case atStart=>exact⟨0,_,rfl,rfl,rfl,rfl,rfl,fun m hm=>by omega⟩
  case round=>
    obtain⟨j,f,hj,rfl,rfl,rfl,hf0,hf⟩:=hrel;have Zn:Hid (f 0=0):=hf0;clear hf0;cases gk with
    | succ g=>
      have hj8:j<8:=by omega
      have hb:0<128 / 2 ^ j/\128 / 2 ^ j<256/\128 / 2 ^ (j+1)=128 / 2 ^ j / 2/\∀ m,m<j->128 / 2 ^ m≠128 / 2 ^ j:=by
        have:∀ j,j<8->0<128 / 2 ^ j/\128 / 2 ^ j<256/\128 / 2 ^ (j+1)=128 / 2 ^ j / 2/\∀ m,m<j->128 / 2 ^ m≠128 / 2 ^ j:=by decide +kernel
        exact this j hj8
      obtain⟨hb0,hb1,hb2,hb3⟩:=hb;have hc:It j 3988292384<4294967296:=CL j (by omega);have HS:Hid (S (It j 3988292384)=It (j+1) 3988292384):=Y7 j _;have HC:Hid (f=f):=rfl;have HF:Hid (∀ m,m<j->f (128 / 2 ^ m)=It m 3988292384):=hf;have HB2:Hid (128 / 2 ^ (j+1)=128 / 2 ^ j / 2):=hb2;have HB3:Hid (∀ m,m<j->128 / 2 ^ m≠128 / 2 ^ j):=hb3;have HX:∃ x,It j 3988292384=x:=⟨_,rfl⟩;have HY:∃ b,128 / 2 ^ j=b:=⟨_,rfl⟩;clear hf hb2 hb3;obtain⟨x,hx⟩:=HX;obtain⟨b,hy⟩:=HY;rw[hx]at hc HS ⊢;rw[hy]at hb0 hb1 HB2 HB3 ⊢;have hat:=rZ f hb1;have HX:Hid (It j 3988292384=x):=hx;have HY:Hid (128 / 2 ^ j=b):=hy;clear hx hy;go_wp2_with (go_at_call 229;refine (CQ _ hc _).mono ?_;rintro e w' ⟨rfl,rfl⟩);go_roundg g;case measure=>omega
      case rel=>
        refine⟨j+1,fun i=>if i=b then x else f i,by omega,?_,?_,?_,?_,?_⟩
        · rw[HB2.out];simp
        · rw[<- HS.out]
        · rw[<- G9]
        · have h0:¬ 0=b:=by omega
          simp only[h0,if_false];exact Zn.out
        · intro m hm
          by_cases h:m=j
          · subst h;simp[HY.out,HX.out]
          · have h1:=HB3.out m (by omega)
            simp only[h1,if_false];exact HF.out m (by omega)
    | zero=>
      obtain rfl:j=8:=by omega
      have HF:Hid (∀ m,m<8->f (128 / 2 ^ m)=It 8 (128 / 2 ^ m)):=fun m hm=>by rw[hf m hm,powers m hm]
      clear hf;have hz:((128 / 2 ^ 8:Nat):Int)=0:=by decide
      go_wp2;generalize It 8 3988292384=q;go_loopg [4,5,15] 256 (fun g _ _ c wx=>∃ (i:Nat) (f:Nat->Nat) (wz:World),i+g=256/\c=.int .i64 i /\
        wx=(wz.alloc (.cells (tab fun _=>0) 278)).alloc (.cells (tab f) 278)/\(∀ k,k<i\/k=0->f k=It 8 k)/\(∀ m,m<8->f (128 / 2 ^ m)=It 8 (128 / 2 ^ m))/\wz.heap.size=w.heap.size/\Kept w wz)
      case atStart=>exact⟨0,f,w,rfl,rfl,rfl,fun k hk=>by rcases hk with hk | rfl;(omega);(rw[Zn.out,Bf]),HF.out,rfl,Kept.refl w⟩
      case round=>
        clear HF Zn f;obtain⟨i,f,wz,hi,rfl,rfl,hlow,QU,hsz,hgr⟩:=hrel;cases gk with
        | succ g=>
          have hi1:i<256:=by omega
          obtain⟨e1,e2,hl,hcase⟩:=JR i hi1;have hx:i ^^^ low i<256:=Nat.xor_lt_two_pow (n:=8) hi1 hl;have hv:f (low i) ^^^ f (i ^^^ low i)=It 8 i/\f (low i)<4294967296/\f (i ^^^ low i)<4294967296:=by
            rcases hcase with⟨h0,hl0⟩|⟨⟨m,hm,hlm⟩,hlt⟩
            · have h1:f 0=0:=by rw[hlow 0 (.inr rfl),Bf]
              rw[hl0,h0,Nat.xor_self,h1,Bf];decide
            · have h1:f (low i)=It 8 (low i):=by rw[hlm];exact QU m hm
              have h2:f (i ^^^ low i)=It 8 (i ^^^ low i):=hlow _ (.inl hlt);rw[h1,h2];refine⟨?_,CL 8 (by omega),CL 8 (by omega)⟩;rw[<- MC,Nat.xor_comm i,MB]
          obtain⟨hv,hf1,hf2⟩:=hv;have e3:bits .xor .u32 (f (low i):Nat) (f (i ^^^ low i):Nat)=((f (low i) ^^^ f (i ^^^ low i):Nat):Int):=u32_xor_nat _ _ hf1 hf2;rw[hv]at e3;have a1:=rZ f hi1;have a2:=rZ f hl;have a3:=rZ f hx;have HL:Hid (∀ k,k<i\/k=0->f k=It 8 k):=hlow;have HI:Hid (i+(g+1)=256):=hi;have HP:Hid (∀ m,m<8->f (128 / 2 ^ m)=It 8 (128 / 2 ^ m)):=QU;clear hlow QU hcase hv hf1 hf2;generalize hy:It 8 i=y at e3;have HY:Hid (It 8 i=y):=hy;clear hy;generalize f (i ^^^ low i)=fr at a3 e3;generalize i ^^^ low i=r at a3 e2 hx;generalize f (low i)=fl at a2 e3;generalize low i=l at a2 e1 e2 hl;clear hz hi QT;go_wp2;go_region;go_wp2;go_roundg g;case measure=>omega
          case rel=>
            refine⟨i+1,fun k=>if k=i then y else f k,wz.drew,by have:=HI.out;omega,by go_num,?_,?_,?_,hsz,hgr.drew⟩
            · rw[<- G9];rfl
            · intro k hk
              by_cases h:k=i
              · subst h;simp[HY.out]
              · simp only[h,if_false];exact HL.out k (by omega)
            · intro m hm
              by_cases h:128 / 2 ^ m=i
              · simp only[h,if_true];exact HY.out.symm
              · simp only[h,if_false];exact HP.out m hm
        | zero=>
          obtain rfl:i=256:=by omega
          clear QT hz hi;rw[JQ fun k hk=>hlow k (.inl hk)];clear hlow QU;have hT:=jk (It 8);have h1:=Ha (It 8);have Hm:(Tryz.prog.info? 278).map (·.size)=some (tab (It 8)).size:=by rw[hT];exact Hl
          have hz0:(tab fun _=>0).size=(tab (It 8)).size:=by rw[hT,jk]
          generalize hTT:tab (It 8)=T at hT h1 Hm hz0 ⊢;have HT:Hid (tab (It 8)=T):=hTT;clear hTT;generalize (tab fun _=>0)=Z at hz0 ⊢;have hg1:((wz.alloc (.cells Z 278)).alloc (.cells T 278)).heap[w.heap.size+1]? = some (.cells T 278 (0,0)):=by
            rw[<- hsz];exact heap_alloc2_new _ _ _
          have hg0:((wz.alloc (.cells Z 278)).alloc (.cells T 278)).heap[w.heap.size]? = some (.cells Z 278 (0,0)):=by
            rw[heap_alloc_old _ _ (by show w.heap.size<(wz.heap.push _).size;simp[hsz]),<- hsz];exact heap_alloc_new _ _
          have hfin:Kept w (((wz.alloc (.cells Z 278)).alloc (.cells T 278)).setRow w.heap.size T):=by
            rw[uh _ _ _ _ (by show w.heap.size<(wz.heap.push _).size;simp[hsz]),<- hsz,World.setRow_alloc_new];exact (hgr.alloc _).alloc _
          have hg2:(((wz.alloc (.cells Z 278)).alloc (.cells T 278)).setRow w.heap.size T).heap[w.heap.size]? = some (.cells T 278 (0,0)):=setRow_heap _ _ _ _ _ _ hg0;generalize (wz.alloc (.cells Z 278)).alloc (.cells T 278)=W at hg1 hg0 hg2 hfin ⊢;clear hgr hsz;go_wp2_with (first
            | (refine wpList_load_row rfl 278 (.tmp 1) rfl (w.heap.size+1) rfl 278 T (0,0) _ hg1 Tryz.underlying278 rfl Hm ?_)
            | (refine wpList_store_row rfl 278 (.tmp 0) (.tmp 34) rfl w.heap.size T rfl rfl 278 Z hg0 Hm hz0 h1 ?_))
          refine bodyPost_ret (v:=.agg T) ?_ rfl ⟨by rw[HT.out],hfin⟩;exact results_cell_row rfl _ _ w.heap.size 278 T (0,0) _ rfl hg2 Tryz.underlying278 rfl Hm
def more (c:Nat) (s:ByteArray):Nat:=run (byte s) (c ^^^ 4294967295) s.size ^^^ 4294967295
theorem Ho(c:Nat)(h:c<4294967296):bits .xor .u32 IntKind.u32.max (c:Int)=((c ^^^ 4294967295:Nat):Int):=by
 have e:=u32_xor_nat 4294967295 c (by omega) h;rw[Nat.xor_comm]at e;exact e
theorem JS(c:Nat)(hc:c<4294967296)(s:ByteArray)(hs:s.size<=maxLen)(w:World):
 Calls Tryz.prog 159 #[.int .u32 c,.string s] w fun e w'=>e=.returned (.int .u32 (more c s:Nat))/\Kept w w':=by
 unfold maxLen at hs;have QT:=Hg;have sg:IntKind.u32.signed=false:=rfl;have en:=Ho c hc;have hn:c ^^^ 4294967295<4294967296:=Nat.xor_lt_two_pow (n:=32) hc (by omega);have HM:Hid (more c s=run (byte s) (c ^^^ 4294967295) s.size ^^^ 4294967295):=rfl;generalize c ^^^ 4294967295=d at hn en HM;generalize more c s=m at HM;go_enter Tryz.func159,Tryz.ntmps159;go_wp2_with (first
  | (go_at_call 202;refine (Bp _).mono ?_;rintro e w1 ⟨rfl,hg1⟩)
  | (refine wpList_store_row rfl 278 (.tmp 5) (.tmp 7) rfl _ (tab (It 8)) rfl rfl 278 (tab fun _=>0) (heap_alloc_new _ _) (by rw[jk];exact Hl) (by rw[jk,jk]) (Ha _) ?_;rw[World.setRow_alloc_new]))
 clear QT en;have hT:∀ k,k<256->(tab (It 8))[k]? = some (.int .u32 (It 8 k:Nat)):=fun k hk=>rZ _ hk
 have HT:Hid (∀ k,k<256->(tab (It 8))[k]? = some (.int .u32 (It 8 k:Nat))):=hT;generalize tab (It 8)=T at HT ⊢;clear hT;go_loop [0,6,12] (fun c' _ i=>∃ k:Nat,k<=s.size/\i=.int .i64 k/\c'=.int .u32 (run (byte s) d k:Nat)) (fun _ _ i=>s.size-(intOf i).toNat);case atStart=>exact⟨0,aag _,rfl,rfl⟩
 case round=>
  obtain⟨k,hk,rfl,rfl⟩:=hrel;have hx:run (byte s) d k<4294967296:=MF (Bj s) hn k;by_cases hlt:k<s.size
  ·have HR:Hid (run (byte s) d (k+1)=F (run (byte s) d k) (byte s k)):=rfl
   generalize hr:run (byte s) d k=x at hx HR ⊢;clear hr;have hb:=Bj s k;have e0:bits .xor .u8 ((x:Int) % 256) (s[k].toNat:Int)=(((x % 256) ^^^ byte s k:Nat):Int):=by
    rw[byte_at hlt,show ((x:Int) % 256)=((x % 256:Nat):Int) by omega];exact u8_xor_nat _ _ (by omega) hb
   have hi:(x % 256) ^^^ byte s k<256:=Nat.xor_lt_two_pow (n:=8) (by omega) hb;have hat:=HT.out _ hi;have hF:=QO x (byte s k) hb;have hv:It 8 ((x % 256) ^^^ byte s k)<4294967296:=CL 8 (by omega);have e1:bits .xor .u32 ((It 8 ((x % 256) ^^^ byte s k):Nat):Int) ((x:Int) / 256)=((F x (byte s k):Nat):Int):=by
    rw[hF,show ((x:Int) / 256)=((x / 256:Nat):Int) by omega];exact u32_xor_nat _ _ hv (by omega)
   have HH:Hid (∃ y,F x (byte s k)=y):=⟨_,rfl⟩;clear hF hv;generalize F x (byte s k)=y at e1 HR;generalize It 8 ((x % 256) ^^^ byte s k)=v at e1 hat;generalize (x % 256) ^^^ byte s k=ix at e0 hi hat;clear hb HH;go_wp2;go_round;case rel=>exact⟨k+1,by omega,by go_num,by rw[HR.out]⟩
   case measure=>simp[intOf];omega
  ·obtain rfl:k=s.size:=by omega
   have e3:=Ho _ hx;rw[<- HM.out]at e3;clear HM HT;go_wp2;go_ret;exact⟨rfl,hg1.alloc _⟩
theorem QV(s:ByteArray)(hs:s.size<=maxLen)(w:World):
 Calls Tryz.prog 125 #[.string s] w fun e w'=>e=.returned (.int .u32 (check (byte s) s.size:Nat))/\Kept w w':=by
 have HM:Hid (more 0 s=check (byte s) s.size):=by
  unfold more check;rw[Nat.zero_xor];exact rfl
 rw[<- HM.out];clear HM;go_enter Tryz.func125,Tryz.ntmps125;go_wp2_with (go_at_call 159;refine (JS 0 (by omega) s hs _).mono ?_;rintro e w1 ⟨rfl,hg1⟩);go_ret;exact⟨rfl,hg1⟩
