/- Joined. -/
import Derived.Test.YtafgecaeiodmiaaGreatDoorZab
namespace Go.Proofs.YtafgecaeiodmiaaGreatDoor.T
open Go.ChangeShapes Go.WideShapes Go.ChangeAt Go.RowKit
open Go.Maps (Keyed)
open G (keyed keyIs litk One nodup_le)
def Rn:Value→Option (DataW Unit×List MemPlace)
 | .agg cs=>if cs.size=0 then some (.agg [],[]) else none
 | _=>none
theorem Rn_val:Rn (.agg #[])=some (.agg [],[]):=rfl
theorem Rn_inv{v:Value}{z:DataW Unit×List MemPlace}(h:Rn v=some z):v=.agg #[]:=by
 unfold Rn at h;split at h
 ·rename_i cs
  split at h
  ·rename_i hc
   congr 1;exact Array.eq_empty_of_size_eq_zero hc
  ·cases h
 ·cases h
theorem infoNone:(Tryz.prog.info? 124).map (·.zero)=some (some (.agg #[])):=by kernel_rfl
theorem zeroNone(w:World):(zeroValue 124).run Tryz.prog w=.ok (.agg #[]) w:=by
 have h:=infoNone;cases hq:Tryz.prog.info? 124 with
 | none=>rw[hq]at h;simp at h
 | some i=>
  rw[hq]at h;have hz:i.zero=some (.agg #[]):=by simpa using h
  simp[zeroValue,typeInfo,hq,hz]
structure MS (w:World) (b:Nat) (S:Nat→Bool):Prop where
 out:∃ D,w.ownsMap Tryz.prog 3 Rn b (Maps.size D) D∧(∀ k:Nat,Maps.has D (.int .i64 (k:Nat))=S k)∧∀ x:Int,Maps.has D (.int .i64 x)=true→∃ k:Nat,x=(k:Int)∧k<1024
theorem tightN{w:World}{b n:Nat}{D:DataW Unit}(h:w.ownsMap Tryz.prog 3 Rn b n D):w.ownsMap Tryz.prog 3 Rn b (Maps.size D) D:=by
 obtain⟨es,c,h1,h2,h3,h4⟩:=h;refine⟨es,c,h1,h2,?_,h4⟩;rw[h4];simp[Maps.size,length_sorted]
theorem MS.lt{w:World}{b:Nat}{S:Nat→Bool}(h:MS w b S):b<w.heap.size:=by
 obtain⟨D,h1,_⟩:=h.out;exact h1.lt
theorem MS.block{w:World}{b:Nat}{S:Nat→Bool}(h:MS w b S):∃ es c,w.heap[b]? = some (.map es c):=by
 obtain⟨D,⟨es,c,h1,_⟩,_⟩:=h.out;exact⟨es,c,h1⟩
theorem MS.same{w w':World}{b:Nat}{S:Nat→Bool}(h:MS w b S)(hb:w'.heap[b]? = w.heap[b]?):MS w' b S:=by
 obtain⟨D,⟨es,c,h1,h2⟩,h3⟩:=h.out;exact⟨D,⟨es,c,hb.trans h1,h2⟩,h3⟩
theorem MS.made(w:World):MS (w.alloc (.map #[] 0)) w.heap.size (fun _=>false):=
 ⟨.map [],World.ownsMap_made w _ _ _,fun _=>rfl,fun x h=>by cases h⟩
theorem keysN{w:World}{b n:Nat}{D:DataW Unit}(h:w.ownsMap Tryz.prog 3 Rn b n D):(intKeys D).Nodup∧(∀ x,x∈intKeys D↔Maps.has D (.int .i64 x)=true)∧(intKeys D).length=Maps.size D:=by
 obtain⟨es,hD,hpw,_⟩:=h.entries keyed;obtain⟨es',hD',hko⟩:=h.keysOf;obtain rfl:es=es':=by rw[hD]at hD';simpa using hD'
 subst hD;have hk:∀ p∈es,∃ x,p.1=Lit.int .i64 x:=fun p hp=>by obtain⟨v,hv⟩:=hko p hp;obtain⟨x,_,hx,_⟩:=Maps.keyOf_i64 Tryz.underlying3 hv;exact⟨x,hx⟩
 refine⟨?_,fun x=>?_,by simp[intKeys,Maps.size]⟩
 ·show (es.map fun p=>Go.intOf p.1).Nodup
  refine List.pairwise_map.2 (hpw.imp_of_mem fun {p q} hp' hq' hne e=>hne ?_);obtain⟨a,ha⟩:=hk p hp';obtain⟨c,hc⟩:=hk q hq';rw[ha,hc]at e ⊢;exact congrArg _ e
 ·rw[Maps.has_eq,List.any_eq_true]
  show x∈es.map (fun p=>Go.intOf p.1)↔_;rw[List.mem_map];constructor
  ·rintro⟨p,hp',rfl⟩
   obtain⟨a,ha⟩:=hk p hp';exact⟨p,hp',by rw[ha];simp[Lit.sameKey,Go.intOf]⟩
  ·rintro⟨p,hp',hs⟩
   obtain⟨a,ha⟩:=hk p hp';rw[ha]at hs;exact⟨p,hp',by rw[ha];simpa[Lit.sameKey,Go.intOf] using hs⟩
theorem MS.few{w:World}{b:Nat}{S:Nat→Bool}(h:MS w b S):∃ D,w.ownsMap Tryz.prog 3 Rn b (Maps.size D) D∧Maps.size D≤1024∧(∀ k:Nat,Maps.has D (.int .i64 (k:Nat))=S k)∧∀ x:Int,Maps.has D (.int .i64 x)=true→∃ k:Nat,x=(k:Int)∧k<1024:=by
 obtain⟨D,h1,h2,h4⟩:=h.out;refine⟨D,h1,?_,h2,h4⟩;obtain⟨k1,k2,k3⟩:=keysN h1;rw[← k3];have e:((intKeys D).map Int.toNat).length=(intKeys D).length:=by simp
 rw[← e];refine nodup_le 1024 _ ?_ ?_
 ·refine List.pairwise_map.2 (k1.imp_of_mem fun {p q} hp hq hne e=>hne ?_)
  obtain⟨j,rfl,_⟩:=h4 p ((k2 p).1 hp);obtain⟨i,rfl,_⟩:=h4 q ((k2 q).1 hq);have e':j=i:=by simpa using e
  rw[e']
 ·intro x hx
  obtain⟨y,hy,rfl⟩:=List.mem_map.1 hx;obtain⟨j,rfl,hj⟩:=h4 y ((k2 y).1 hy);simpa using hj
theorem MS.look{w:World}{b:Nat}{S:Nat→Bool}(h:MS w b S)(k:Nat)(hk:k<9223372036854775808) :
  (Instr.lookup 77 (.map (some b)) (.int .i64 (k:Nat)) true).run Tryz.prog w=.ok (.tuple #[.agg #[],.bool (S k)]) w:=by
 obtain⟨D,h1,h2,h4⟩:=h.out;obtain⟨v,ps,hr,hv⟩:=h1.look_ok keyed Tryz.underlying77 (zeroNone w) Rn_val (keyIs k hk);rw[hr,h2,Rn_inv hv]
theorem MS.store{w:World}{b:Nat}{S:Nat→Bool}(h:MS w b S)(n:Nat)(hn:n<1024) :
  ∃ w',(Instr.mapUpdate 77 (.map (some b)) (.int .i64 (n:Nat)) (.agg #[])).run Tryz.prog w=.ok () w'∧MS w' b (fun k=>S k || decide (k=n))∧One b w w':=by
 obtain⟨D,h1,h0,h2,h4⟩:=h.few;obtain⟨w',hr,h5,h6⟩:=h1.store keyed Tryz.underlying77 (by unfold maxLen;omega) (keyIs n (by omega)) Rn_val;refine⟨w',hr,⟨_,tightN h5,fun k=>?_,fun x hx=>?_⟩,One.of h6⟩
 ·by_cases e:k=n
  ·subst e;rw[Maps.has_put_same h1.isMap (litk k (by omega))];simp
  ·rw[Maps.has_put_other (by intro q;injection q with _ q;omega),h2];simp[e]
 ·by_cases e:x=(n:Int)
  ·exact⟨n,e,hn⟩
  ·rw[Maps.has_put_other (by intro q;injection q with _ q;exact e q)]at hx;exact h4 x hx
end Go.Proofs.YtafgecaeiodmiaaGreatDoor.T