/- Joined. -/
import Derived.Test.YtifeihnhkbagpaaGreatDoorZaa
import Derived.Test.YtifeihnhkbagpaaGreatDoorRows
import Derived.WalkKit
import Derived.ProofKit
import Derived.Maps.OwnSet
import Derived.Maps.RangeWalk
namespace Go.Proofs.YtifeihnhkbagpaaGreatDoor.G
open ChangeShapes WideShapes ChangeAt RowKit
open Go.Maps (Keyed)
structure bG where
 kind:Int
 num:Int
 gen:Nat
 data:ByteArray
def bG.val (p:bG):Value:=.agg #[.int .i64 p.kind,.int .i64 p.num,.int .u64 (p.gen:Nat),.string p.data]
def bG.dat (p:bG):DataW Unit:=.agg [.lit (.int .i64 p.kind),.lit (.int .i64 p.num),.lit (.int .u64 (p.gen:Nat)),.lit (.string p.data.data.toList)]
def bG.zero:bG:=⟨0,0,0,⟨#[]⟩⟩
def R4:Value->Option (DataW Unit×List MemPlace)
 | .agg cs=>match cs.toList with
  | [.int .i64 a,.int .i64 b,.int .u64 c,.string s]=>if 0<=c then some (bG.dat ⟨a,b,c.toNat,s⟩,[]) else none
  | _=>none
 | _=>none
theorem ET(p:bG):R4 p.val=some (p.dat,[]):=by
 simp[R4,bG.val]
theorem EU{v:Value}{z:DataW Unit×List MemPlace}(h:R4 v=some z):∃ p:bG,v=p.val/\z=(p.dat,[]):=by
 unfold R4 at h;split at h
 ·rename_i cs
  split at h
  ·rename_i a b c s hl
   split at h
   ·rename_i hc
    injection h with h
    refine⟨⟨a,b,c.toNat,s⟩,?_,h.symm⟩;unfold bG.val;have e:((c.toNat:Nat):Int)=c:=by omega
    rw[e];congr 1;apply Array.toList_inj.1;rw[hl]
   ·cases h
  ·cases h
 ·cases h
theorem GM{p q:bG}(h:p.dat=q.dat):p=q:=by
 cases p with | mk a b c s=>cases q with | mk a' b' c' s'=>
 simp only[bG.dat,DataW.agg.injEq,List.cons.injEq,DataW.lit.injEq,Lit.int.injEq,Lit.string.injEq,true_and,and_true]at h;obtain⟨rfl,rfl,h3,h4⟩:=h;have e3:c=c':=by omega
 have e4:s=s':=by cases s;cases s';simp only[ByteArray.mk.injEq];exact Array.toList_inj.1 h4
 rw[e3,e4]
theorem keyed:Keyed Tryz.prog 3:=Maps.int_keyed Tryz.underlying3
theorem Qo:(Tryz.prog.info? 157).map (·.zero)=some (some bG.zero.val):=by kernel_rfl
theorem GN(w:World):(zeroValue 157).run Tryz.prog w=.ok bG.zero.val w:=by
 have h:=Qo;cases hq:Tryz.prog.info? 157 with
 | none=>rw[hq]at h;simp at h
 | some i=>
  rw[hq]at h;have hz:i.zero=some bG.zero.val:=by simpa using h
  simp[zeroValue,typeInfo,hq,hz]
structure iP (w:World) (b:Nat) (M:Nat->Option bG):Prop where
 out:∃ D,w.ownsMap Tryz.prog 3 R4 b (Maps.size D) D/\(∀ k:Nat,Maps.has D (.int .i64 (k:Nat))=(M k).isSome)/\(∀ (k:Nat) p,M k=some p->∀ z,D.atKey (.int .i64 (k:Nat)) z=p.dat) /\
  ∀ x:Int,Maps.has D (.int .i64 x)=true->∃ k:Nat,x=(k:Int)/\k<1024
variable {w:World}{b n:Nat}
theorem tight{D:DataW Unit}(h:w.ownsMap Tryz.prog 3 R4 b n D):w.ownsMap Tryz.prog 3 R4 b (Maps.size D) D:=by
 obtain⟨es,c,h1,h2,h3,h4⟩:=h;refine⟨es,c,h1,h2,?_,h4⟩;rw[h4];simp[Maps.size,length_sorted]
variable {M:Nat->Option bG}
theorem iP.lt(h:iP w b M):b<w.heap.size:=by
 obtain⟨D,h1,_⟩:=h.out;exact h1.lt
theorem iP.block(h:iP w b M):∃ es c,w.heap[b]? = some (.map es c):=by
 obtain⟨D,⟨es,c,h1,_⟩,_⟩:=h.out;exact⟨es,c,h1⟩
variable {w':World}
theorem iP.same(h:iP w b M)(hb:w'.heap[b]? = w.heap[b]?):iP w' b M:=by
 obtain⟨D,⟨es,c,h1,h2⟩,h3⟩:=h.out;exact⟨D,⟨es,c,hb.trans h1,h2⟩,h3⟩
theorem iP.made(w:World):iP (w.alloc (.map #[] 0)) w.heap.size (fun _=>none):=by
 refine⟨.map [],World.ownsMap_made w _ _ _,fun _=>rfl,?_,?_⟩
 ·intro k p h;cases h
 ·intro x h;cases h
theorem iP.below(h:iP w b M){k:Nat}(hk:(M k).isSome=true):k<1024:=by
 obtain⟨D,h1,h2,h3,h4⟩:=h.out;obtain⟨j,e,hj⟩:=h4 k (by rw[h2];exact hk);omega
theorem xy{D:DataW Unit}(h:w.ownsMap Tryz.prog 3 R4 b n D):(intKeys D).Nodup/\(∀ x,x∈intKeys D↔Maps.has D (.int .i64 x)=true)/\(intKeys D).length=Maps.size D:=by
 obtain⟨es,hD,hpw,_⟩:=h.entries keyed;obtain⟨es',hD',hko⟩:=h.keysOf;obtain rfl:es=es':=by rw[hD]at hD';simpa using hD'
 subst hD;have hk:∀ p∈es,∃ x,p.1=Lit.int .i64 x:=fun p hp=>by obtain⟨v,hv⟩:=hko p hp;obtain⟨x,_,hx,_⟩:=Maps.keyOf_i64 Tryz.underlying3 hv;exact⟨x,hx⟩
 refine⟨?_,fun x=>?_,by simp[intKeys,Maps.size]⟩
 ·show (es.map fun p=>Go.intOf p.1).Nodup
  refine List.pairwise_map.2 (hpw.imp_of_mem fun {p q} hp' hq' hne e=>hne ?_);obtain⟨a,ha⟩:=hk p hp';obtain⟨c,hc⟩:=hk q hq';rw[ha,hc]at e ⊢;exact congrArg _ e
 ·rw[Maps.has_eq,List.any_eq_true]
  show x∈es.map (fun p=>Go.intOf p.1)↔_;rw[List.mem_map];constructor
  ·rintro⟨p,hp',rfl⟩
   obtain⟨a,ha⟩:=hk p hp';exact⟨p,hp',by rw[ha];simp[Lit.sameKey,Go.intOf]⟩
  ·rintro⟨p,hp',hs⟩
   obtain⟨a,ha⟩:=hk p hp';rw[ha]at hs;exact⟨p,hp',by rw[ha];simpa[Lit.sameKey,Go.intOf] using hs⟩
theorem sV:∀ (n:Nat) (l:List Nat),l.Nodup->(∀ x∈l,x<n)->l.length<=n
 | 0,l,_,h=>by
  cases l with
  | nil=>simp
  | cons x r=>exact absurd (h x (by simp)) (by omega)
 | n+1,l,hd,h=>by
  have h1:=sV n (l.erase n) (hd.erase n) (fun x hx=>by
   have h2:=h x (List.mem_of_mem_erase hx)
   have h3:x≠n:=fun e=>by subst e;exact (hd.not_mem_erase hx)
   omega)
  rw[List.length_erase]at h1;split at h1 <;> omega
theorem iP.few(h:iP w b M):∃ D,w.ownsMap Tryz.prog 3 R4 b (Maps.size D) D/\Maps.size D<=1024/\(∀ k:Nat,Maps.has D (.int .i64 k)=(M k).isSome)/\(∀ (k:Nat) p,M k=some p->∀ z,D.atKey (.int .i64 k) z=p.dat) /\
  ∀ x:Int,Maps.has D (.int .i64 x)=true->∃ k:Nat,x=(k:Int)/\k<1024:=by
 obtain⟨D,h1,h2,h3,h4⟩:=h.out;refine⟨D,h1,?_,h2,h3,h4⟩;obtain⟨k1,k2,k3⟩:=xy h1;rw[<- k3];have e:((intKeys D).map Int.toNat).length=(intKeys D).length:=by simp
 rw[<- e];refine sV 1024 _ ?_ ?_
 ·refine List.pairwise_map.2 (k1.imp_of_mem fun {p q} hp hq hne e=>hne ?_)
  obtain⟨j,rfl,_⟩:=h4 p ((k2 p).1 hp);obtain⟨i,rfl,_⟩:=h4 q ((k2 q).1 hq);have e':j=i:=by simpa using e
  rw[e']
 ·intro x hx
  obtain⟨y,hy,rfl⟩:=List.mem_map.1 hx;obtain⟨j,rfl,hj⟩:=h4 y ((k2 y).1 hy);simpa using hj
theorem vP(k:Nat)(hk:k<9223372036854775808):keyOf Tryz.prog 3 (.int .i64 k)=some (.int .i64 k):=
 Maps.keyOf_int_mk Tryz.underlying3 (WalkArith.wf_i64 (by omega))
def nG (M:Nat->Option bG) (k:Nat):bG:=(M k).getD bG.zero
theorem iP.look(h:iP w b M)(k:Nat)(hk:k<9223372036854775808) :
  (Instr.lookup 104 (.map (some b)) (.int .i64 k) true).run Tryz.prog w=.ok (.tuple #[(nG M k).val,.bool (M k).isSome]) w:=by
 obtain⟨D,h1,h2,h3,h4⟩:=h.out;obtain⟨v,ps,hr,hv⟩:=h1.look_ok keyed Tryz.underlying104 (GN w) (ET bG.zero) (vP k hk);rw[hr,h2];obtain⟨p,rfl,hz⟩:=EU hv;have e:p=nG M k:=by
  apply GM;have hz:=congrArg Prod.fst hz;rw[<- show _=p.dat from hz];unfold nG;cases hm:M k with
  | none=>rw[Maps.atKey_of_not_has (by rw[h2,hm];rfl)];rfl
  | some q=>exact h3 k q hm _
 rw[e]
theorem iP.get(h:iP w b M)(k:Nat)(hk:k<9223372036854775808) :
  (Instr.lookup 104 (.map (some b)) (.int .i64 k) false).run Tryz.prog w=.ok (nG M k).val w:=by
 obtain⟨D,h1,h2,h3,h4⟩:=h.out;obtain⟨v,ps,hr,hv⟩:=h1.lookup keyed Tryz.underlying104 (GN w) (ET bG.zero) (vP k hk);rw[hr];obtain⟨p,rfl,hz⟩:=EU hv;have e:p=nG M k:=by
  apply GM;have hz:=congrArg Prod.fst hz;rw[<- show _=p.dat from hz];unfold nG;cases hm:M k with
  | none=>rw[Maps.atKey_of_not_has (by rw[h2,hm];rfl)];rfl
  | some q=>exact h3 k q hm _
 rw[e]
structure One (b:Nat) (w w':World):Prop where
 below:∀ B,B<=b->Below B w w'
 size:w'.heap.size=w.heap.size
 block:∀ k,k≠b->w'.heap[k]? = w.heap[k]?
theorem One.of(h:w.mapTurned w' b):One b w w':=by
 have hg:=h.grown;obtain⟨es,c,es',c',hb,rfl⟩:=h;refine⟨fun B hB=>(Below.refl B w).grown (w:=w) hg ?_ (fun k e=>by injection e with e;omega),by simp[ChangeMaps.setBlock],fun k hk=>ChangeMaps.heap_setBlock_other hb _ hk⟩;have:=(aaa.1 hb).1;omega
def eB (M:Nat->Option bG) (n:Nat) (p:bG):Nat->Option bG:=fun k=>if k=n then some p else M k
def oM (M:Nat->Option bG) (n:Nat):Nat->Option bG:=fun k=>if k=n then none else M k
theorem Qp(k:Nat)(hk:k<9223372036854775808):WideAt.IsKeyLit (.int .i64 k):=keyed.key (vP k hk)
theorem iP.store(h:iP w b M)(n:Nat)(hn:n<1024)(p:bG) :
  ∃ w',(Instr.mapUpdate 104 (.map (some b)) (.int .i64 n) p.val).run Tryz.prog w=.ok () w'/\iP w' b (eB M n p)/\One b w w':=by
 obtain⟨D,h1,h0,h2,h3,h4⟩:=h.few;obtain⟨w',hr,h5,h6⟩:=h1.store keyed Tryz.underlying104 (by unfold maxLen;omega) (vP n (by omega)) (ET p);refine⟨w',hr,⟨_,tight h5,fun k=>?_,fun k q hq z=>?_,fun x hx=>?_⟩,One.of h6⟩
 ·unfold eB
  by_cases e:k=n
  ·subst e;rw[aao rfl,Maps.has_put_same h1.isMap (Qp k (by omega))];rfl
  ·rw[aai e,Maps.has_put_other (by intro q;injection q with _ q;omega),h2]
 ·unfold eB at hq
  by_cases e:k=n
  ·subst e;rw[aao rfl]at hq;obtain rfl:=aaq hq;exact Maps.atKey_put_same h1.isMap (Qp k (by omega)) _ _
  ·rw[aai e]at hq;rw[Maps.atKey_put_other (by intro q;injection q with _ q;omega)];exact h3 k q hq z
 ·by_cases e:x=(n:Int)
  ·exact⟨n,e,hn⟩
  ·rw[Maps.has_put_other (by intro q;injection q with _ q;exact e q)]at hx;exact h4 x hx
theorem iP.drop(h:iP w b M)(n:Nat)(hn:n<9223372036854775808)(ty:TypeId) :
  ∃ w',(Builtin.delete_ #[104,3] ty #[.map (some b),.int .i64 n]).run Tryz.prog w=.ok (.tuple #[]) w'/\iP w' b (oM M n)/\One b w w':=by
 obtain⟨D,h1,h2,h3,h4⟩:=h.out;obtain⟨w',hr,h5,h6⟩:=h1.drop keyed Tryz.underlying104 (vP n hn) ty;refine⟨w',hr,⟨_,tight h5,fun k=>?_,fun k q hq z=>?_,fun x hx=>?_⟩,One.of h6⟩
 ·unfold oM
  by_cases e:k=n
  ·subst e;rw[aao rfl,Maps.has_del_same];rfl
  ·rw[aai e,Maps.has_del_other (by intro q;injection q with _ q;omega),h2]
 ·unfold oM at hq
  by_cases e:k=n
  ·subst e;rw[aao rfl]at hq;cases hq
  ·rw[aai e]at hq;rw[Maps.atKey_del_other (by intro q;injection q with _ q;omega)];exact h3 k q hq z
 ·by_cases e:x=(n:Int)
  ·subst e;rw[Maps.has_del_same]at hx;cases hx
  ·rw[Maps.has_del_other (by intro q;injection q with _ q;exact e q)]at hx;exact h4 x hx
theorem iP.clear(h:iP w b M)(ty:TypeId) :
  ∃ w',(Builtin.clear_ #[104] ty #[.map (some b)]).run Tryz.prog w=.ok (.tuple #[]) w'/\iP w' b (fun _=>none)/\One b w w':=by
 obtain⟨D,⟨es,c,h1,hF,h5⟩,h2⟩:=h.out;have hr:(Builtin.clear_ #[104] ty #[.map (some b)]).run Tryz.prog w=.ok (.tuple #[]) (ChangeMaps.setBlock w b (.map #[] c)):=by
  simp[Builtin.clear_,run_underlying Tryz.underlying104,MapKept.run_getObj_map h1,MapKept.run_setObj_map _ h1,Result.andThen,ChangeMaps.setBlock]
 refine⟨_,hr,⟨.map [],⟨#[],c,ChangeMaps.heap_setBlock_same h1 _,⟨by simp,MapKept.stamped_empty c,by simp⟩,aac _,rfl⟩,fun _=>rfl,?_,?_⟩,One.of ⟨es,c,#[],c,h1,rfl⟩⟩
 ·intro k p h;cases h
 ·intro x h;cases h
end Go.Proofs.YtifeihnhkbagpaaGreatDoor.G
namespace Go.Proofs.YtifeihnhkbagpaaGreatDoor.T
open ChangeShapes WideShapes ChangeAt RowKit
open Go.Maps (Keyed)
open G (keyed vP Qp One sV)
def Rn:Value->Option (DataW Unit×List MemPlace)
 | .agg cs=>if cs.size=0 then some (.agg [],[]) else none
 | _=>none
theorem LX:Rn (.agg #[])=some (.agg [],[]):=rfl
theorem Uy{v:Value}{z:DataW Unit×List MemPlace}(h:Rn v=some z):v=.agg #[]:=by
 unfold Rn at h;split at h
 ·rename_i cs
  split at h
  ·rename_i hc
   congr 1;exact Array.eq_empty_of_size_eq_zero hc
  ·cases h
 ·cases h
theorem LY:(Tryz.prog.info? 227).map (·.zero)=some (some (.agg #[])):=by kernel_rfl
theorem LZ(w:World):(zeroValue 227).run Tryz.prog w=.ok (.agg #[]) w:=by
 have h:=LY;cases hq:Tryz.prog.info? 227 with
 | none=>rw[hq]at h;simp at h
 | some i=>
  rw[hq]at h;have hz:i.zero=some (.agg #[]):=by simpa using h
  simp[zeroValue,typeInfo,hq,hz]
structure MS (w:World) (b:Nat) (S:Nat->Bool):Prop where
 out:∃ D,w.ownsMap Tryz.prog 3 Rn b (Maps.size D) D/\(∀ k:Nat,Maps.has D (.int .i64 (k:Nat))=S k)/\∀ x:Int,Maps.has D (.int .i64 x)=true->∃ k:Nat,x=(k:Int)/\k<1024
variable {w:World}{b n:Nat}{D:DataW Unit}
theorem Uz(h:w.ownsMap Tryz.prog 3 Rn b n D):w.ownsMap Tryz.prog 3 Rn b (Maps.size D) D:=by
 obtain⟨es,c,h1,h2,h3,h4⟩:=h;refine⟨es,c,h1,h2,?_,h4⟩;rw[h4];simp[Maps.size,length_sorted]
variable {S:Nat->Bool}
theorem MS.lt(h:MS w b S):b<w.heap.size:=by
 obtain⟨D,h1,_⟩:=h.out;exact h1.lt
theorem MS.block(h:MS w b S):∃ es c,w.heap[b]? = some (.map es c):=by
 obtain⟨D,⟨es,c,h1,_⟩,_⟩:=h.out;exact⟨es,c,h1⟩
theorem MS.same{w':World}(h:MS w b S)(hb:w'.heap[b]? = w.heap[b]?):MS w' b S:=by
 obtain⟨D,⟨es,c,h1,h2⟩,h3⟩:=h.out;exact⟨D,⟨es,c,hb.trans h1,h2⟩,h3⟩
theorem MS.made(w:World):MS (w.alloc (.map #[] 0)) w.heap.size (fun _=>false):=
 ⟨.map [],World.ownsMap_made w _ _ _,fun _=>rfl,fun x h=>by cases h⟩
theorem WE(h:w.ownsMap Tryz.prog 3 Rn b n D):(intKeys D).Nodup/\(∀ x,x∈intKeys D↔Maps.has D (.int .i64 x)=true)/\(intKeys D).length=Maps.size D:=by
 obtain⟨es,hD,hpw,_⟩:=h.entries keyed;obtain⟨es',hD',hko⟩:=h.keysOf;obtain rfl:es=es':=by rw[hD]at hD';simpa using hD'
 subst hD;have hk:∀ p∈es,∃ x,p.1=Lit.int .i64 x:=fun p hp=>by obtain⟨v,hv⟩:=hko p hp;obtain⟨x,_,hx,_⟩:=Maps.keyOf_i64 Tryz.underlying3 hv;exact⟨x,hx⟩
 refine⟨?_,fun x=>?_,by simp[intKeys,Maps.size]⟩
 ·show (es.map fun p=>Go.intOf p.1).Nodup
  refine List.pairwise_map.2 (hpw.imp_of_mem fun {p q} hp' hq' hne e=>hne ?_);obtain⟨a,ha⟩:=hk p hp';obtain⟨c,hc⟩:=hk q hq';rw[ha,hc]at e ⊢;exact congrArg _ e
 ·rw[Maps.has_eq,List.any_eq_true]
  show x∈es.map (fun p=>Go.intOf p.1)↔_;rw[List.mem_map];constructor
  ·rintro⟨p,hp',rfl⟩
   obtain⟨a,ha⟩:=hk p hp';exact⟨p,hp',by rw[ha];simp[Lit.sameKey,Go.intOf]⟩
  ·rintro⟨p,hp',hs⟩
   obtain⟨a,ha⟩:=hk p hp';rw[ha]at hs;exact⟨p,hp',by rw[ha];simpa[Lit.sameKey,Go.intOf] using hs⟩
theorem MS.few(h:MS w b S):∃ D,w.ownsMap Tryz.prog 3 Rn b (Maps.size D) D/\Maps.size D<=1024/\(∀ k:Nat,Maps.has D (.int .i64 k)=S k)/\∀ x:Int,Maps.has D (.int .i64 x)=true->∃ k:Nat,x=(k:Int)/\k<1024:=by
 obtain⟨D,h1,h2,h4⟩:=h.out;refine⟨D,h1,?_,h2,h4⟩;obtain⟨k1,k2,k3⟩:=WE h1;rw[<- k3];have e:((intKeys D).map Int.toNat).length=(intKeys D).length:=by simp
 rw[<- e];refine sV 1024 _ ?_ ?_
 ·refine List.pairwise_map.2 (k1.imp_of_mem fun {p q} hp hq hne e=>hne ?_)
  obtain⟨j,rfl,_⟩:=h4 p ((k2 p).1 hp);obtain⟨i,rfl,_⟩:=h4 q ((k2 q).1 hq);have e':j=i:=by simpa using e
  rw[e']
 ·intro x hx
  obtain⟨y,hy,rfl⟩:=List.mem_map.1 hx;obtain⟨j,rfl,hj⟩:=h4 y ((k2 y).1 hy);simpa using hj
theorem MS.look(h:MS w b S)(k:Nat)(hk:k<9223372036854775808) :
  (Instr.lookup 184 (.map (some b)) (.int .i64 k) true).run Tryz.prog w=.ok (.tuple #[.agg #[],.bool (S k)]) w:=by
 obtain⟨D,h1,h2,h4⟩:=h.out;obtain⟨v,ps,hr,hv⟩:=h1.look_ok keyed Tryz.underlying184 (LZ w) LX (vP k hk);rw[hr,h2,Uy hv]
theorem MS.store(h:MS w b S)(n:Nat)(hn:n<1024) :
  ∃ w',(Instr.mapUpdate 184 (.map (some b)) (.int .i64 n) (.agg #[])).run Tryz.prog w=.ok () w'/\MS w' b (fun k=>S k || decide (k=n))/\One b w w':=by
 obtain⟨D,h1,h0,h2,h4⟩:=h.few;obtain⟨w',hr,h5,h6⟩:=h1.store keyed Tryz.underlying184 (by unfold maxLen;omega) (vP n (by omega)) LX;refine⟨w',hr,⟨_,Uz h5,fun k=>?_,fun x hx=>?_⟩,One.of h6⟩
 ·by_cases e:k=n
  ·subst e;rw[Maps.has_put_same h1.isMap (Qp k (by omega))];simp
  ·rw[Maps.has_put_other (by intro q;injection q with _ q;omega),h2];simp[e]
 ·by_cases e:x=(n:Int)
  ·exact⟨n,e,hn⟩
  ·rw[Maps.has_put_other (by intro q;injection q with _ q;exact e q)]at hx;exact h4 x hx
