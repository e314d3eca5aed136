/- Joined. -/
import Derived.Test.YtifeihnhkbagpaaGreatDoorZzz
import Derived.Test.YtifeihnhkbagpaaGreatDoorRows
import Derived.WalkKit
import Derived.ProofKit
import Derived.WalkSpells
import Derived.Deep.LoopGhost
import Derived.Below
import Derived.Laws.Bits64b
import Derived.Lib.BufferWrite
import Derived.Lib.AppendZerosOnto
import Derived.Shelf.Spec.TrailingZeros
set_option maxHeartbeats 1000000
set_option maxRecDepth 100000
namespace Go.Proofs.YtifeihnhkbagpaaGreatDoor.S
open ChangeShapes WideShapes ChangeAt RowKit
structure Kept (w w':World):Prop where
 out:Below w.heap.size w w'
theorem Kept.refl(w:World):Kept w w:=⟨Below.refl _ _⟩
variable {a b c:World}
theorem Kept.trans(h:Kept a b)(k:Kept b c):Kept a c:=⟨h.out.trans (k.out.mono h.out.size)⟩
theorem Kept.drew(h:Kept a b):Kept a b.drew:=⟨h.out.drew⟩
theorem Kept.alloc(h:Kept a b)(o:Obj):Kept a (b.alloc o):=⟨h.out.alloc h.out.size o⟩
variable {w w':World}
theorem Kept.block(h:Kept w w'){k:Nat}{o:Obj}(hk:w.heap[k]? = some o):w'.heap[k]? = some o:=
 (h.out.block k (aaa.1 hk).1).trans hk
theorem Kept.size(h:Kept w w'):w.heap.size<=w'.heap.size:=h.out.size
theorem Kept.setCell(h:Kept a b){p:Addr}(hp:a.heap.size<=p.block)(u:Value):Kept a (b.setCell p u):=⟨h.out.setCell hp u⟩
theorem Kept.setRow(h:Kept a b){g:Nat}(hp:a.heap.size<=g)(cs:Array Value):Kept a (b.setRow g cs):=
 ⟨h.out.trans ⟨rfl,rfl,rfl,by simp[World.setRow],fun k hk=>setRow_other b g k cs (by omega)⟩⟩
theorem Kept.cell(h:Kept w w'){a:Addr}{v:Value}(hc:w.cell? a=some v):w'.cell? a=some v:=by
 have hb:a.block<w.heap.size:=by
  rcases Nat.lt_or_ge a.block w.heap.size with h | h
  ·exact h
  ·simp[World.cell?,Array.getElem?_eq_none h]at hc
 rw[World.cell?_of_block (w:=w) (h.out.block a.block hb)];exact hc
def Calm (t:TypeId):Prop:=t≠161/\t≠53
structure On (B:Nat) (w w':World):Prop where
 below:Below B w w'
 rows:∀ (b:Nat) (cs:Array Value) (t:TypeId) (fr:Nat×Nat),w.heap[b]? = some (.cells cs t fr)->Calm t->w'.heap[b]? = some (.cells cs t fr)
theorem On.refl(B:Nat)(w:World):On B w w:=⟨Below.refl _ _,fun _ _ _ _ h _=>h⟩
variable {B:Nat}
theorem On.trans(h:On B a b)(k:On B b c):On B a c:=⟨h.below.trans k.below,fun x cs t fr hx ht=>k.rows x cs t fr (h.rows x cs t fr hx ht) ht⟩
theorem On.mono{B':Nat}(h:On B w w')(hB:B'<=B):On B' w w':=⟨h.below.mono hB,h.rows⟩
theorem On.size(h:On B w w'):w.heap.size<=w'.heap.size:=h.below.size
theorem On.drew(h:On B a b):On B a b.drew:=⟨h.below.drew,h.rows⟩
theorem Kept.on(h:Kept w w'){B:Nat}(hB:B<=w.heap.size):On B w w':=⟨h.out.mono hB,fun _ _ _ _ hx _=>h.block hx⟩
theorem On.kept(h:On B a b)(k:Kept b c)(hB:B<=a.heap.size):On B a c:=h.trans (k.on (aad hB h.size))
theorem On.setCell(h:On B a b){g:Nat}(hg:B<=g){cs:Array Value}{t:TypeId}{fr:Nat×Nat}(hb:b.heap[g]? = some (.cells cs t fr))(ht:¬ Calm t)(i:Nat)(u:Value):On B a (b.setCell ⟨g,i,none⟩ u):=by
 refine⟨h.below.setCell hg u,fun x cs' t' fr' hx hc=>?_⟩;have h1:=h.rows x cs' t' fr' hx hc;have hne:x≠g:=by
  intro e;subst e;rw[hb]at h1;injection h1 with h1
  injection h1 with _ e2 _
  exact ht (e2▸hc)
 rw[Below.heap_setCell b ⟨g,i,none⟩ u x hne];exact h1
theorem On.grown(h:On B a b)(hB:B<=a.heap.size){row:Option Nat}(hg:b.grownBy c row)(hr:∀ k,row=some k->B<=k/\∃ cs t fr,b.heap[k]? = some (.cells cs t fr)/\¬ Calm t):On B a c:=by
 refine⟨h.below.grown hg (aad hB h.size) (fun k e=>(hr k e).1),fun x cs' t' fr' hx hc=>?_⟩;have h1:=h.rows x cs' t' fr' hx hc;have hlt:x<b.heap.size:=(aaa.1 h1).1;rw[hg.block x hlt (fun e=>?_)]
 ·exact h1
 ·obtain⟨_,cs,t,fr,hb,ht⟩:=hr x e.symm
  rw[hb]at h1;injection h1 with h1
  injection h1 with _ e2 _
  exact ht (e2▸hc)
theorem A7:¬ Calm 161:=fun h=>h.1 rfl
theorem GQ:¬ Calm 53:=fun h=>h.2 rfl
structure gU (w:World):Prop where
 tab:TabAt 1 Lib.deBruijn64tab w
theorem gU.pos(h:gU w):1<w.heap.size:=World.block_lt_of_cell? w _ (h.tab 0 (by decide))
theorem gU.kept(h:gU w)(k:Kept w w'):gU w':=⟨fun j hj=>k.cell (h.tab j hj)⟩
theorem gU.on(h:gU w)(k:On B w w')(hB:1<B):gU w':=
 ⟨fun j hj=>(World.cell?_of_block (w:=w) (k.below.block 1 hB)).trans (h.tab j hj)⟩
theorem sW(h:Kept w w'){base e size:Nat}{v:Value}{n:Nat}{xs:List Value}(k:w.ownsRow base e size v n xs):w'.ownsRow base e size v n xs:=by
 refine⟨k.1,?_⟩;rcases k.2 with k | ⟨g,cap,cur,h1,h2,h3,h4⟩
 ·exact .inl k
 ·exact .inr ⟨g,cap,cur,h1,h2,h.block h3,h4⟩
variable {v:Value}
theorem nC{base e size:Nat}{n:Nat}{xs:List Value}(k:w.ownsRow base e size v n xs){g i:Nat}{cs:Array Value}{t:TypeId}{fr:Nat×Nat}(hg:w.heap[g]? = some (.cells cs t fr))(ht:t≠e)(u:Value):(w.setCell ⟨g,i,none⟩ u).ownsRow base e size v n xs:=by
 refine⟨k.1,?_⟩;rcases k.2 with k | ⟨b,cap,cur,h1,h2,h3,h4⟩
 ·exact .inl k
 ·refine .inr ⟨b,cap,cur,h1,h2,?_,h4⟩
  rw[Below.heap_setCell w ⟨g,i,none⟩ u b (fun e=>?_)]
  ·exact h3
  ·have e':b=g:=e
   subst e';rw[h3]at hg;injection hg with hg
   injection hg with _ e2 _
   exact ht e2.symm
def aI (ws:List Nat):List Value:=ws.map fun x=>Value.int .u64 (x:Nat)
structure rT (B:Nat) (w:World) (b m l:Nat) (ws:List Nat) (v:Value):Prop where
 blk:w.heap[b]? = some (.cells #[.int .i64 (m:Nat),.int .i64 (l:Nat),v] 161)
 row:w.ownsRow B 53 1 v ws.length (aI ws)
 xz:B<=b
 few:m<=4096
 free:l<=m
 long:ws.length<=64
 word:∀ x∈ws,x<18446744073709551616
def aX (ws:List Nat) (n:Nat):Bool:=(ws.getD (n / 64) 0).testBit (n % 64)
structure wJ (B:Nat) (w:World) (b m l:Nat) (u:Nat->Bool):Prop where
 out:∃ ws v,rT B w b m l ws v/\∀ n,u n=aX ws n
variable {b m l:Nat}{ws:List Nat}
theorem rT.cell(h:rT B w b m l ws v) :
  w.cell? ⟨b,0,none⟩=some (.int .i64 m)/\w.cell? ⟨b,1,none⟩=some (.int .i64 l)/\w.cell? ⟨b,2,none⟩=some v:=by
 refine⟨?_,?_,?_⟩ <;> (rw[cell_of_row w b _ _ _ _ h.blk];rfl)
theorem rT.frozen(h:rT B w b m l ws v)(j:Nat):w.frozen? ⟨b,j,none⟩=false:=frozen_of_row w b j _ _ h.blk
theorem rT.kept(h:rT B w b m l ws v)(k:Kept w w'):rT B w' b m l ws v:=
 ⟨k.block h.blk,sW k h.row,h.xz,h.few,h.free,h.long,h.word⟩
variable {u:Nat->Bool}
theorem wJ.kept(h:wJ B w b m l u)(k:Kept w w'):wJ B w' b m l u:=by
 obtain⟨ws,v,h1,h2⟩:=h.out;exact⟨ws,v,h1.kept k,h2⟩
theorem rT.form(h:rT B w b m l ws v):∃ p c,v=.slice p ws.length c:=by
 rcases h.row.2 with⟨rfl,e⟩|⟨g,cap,cur,rfl,_⟩
 ·exact⟨none,0,by rw[e]⟩
 ·exact⟨_,_,rfl⟩
theorem Cs(ws:List Nat)(j:Nat)(h:j<ws.length):(aI ws)[j]? = some (.int .u64 (ws[j]:Nat)):=by simp[aI,h]
theorem rT.oN(h:rT B w b m l ws v)(j:Nat)(hj:j<ws.length) :
  ∃ g c,v=.slice (some ⟨g,0,none⟩) ws.length c/\B<=g/\w.cell? ⟨g,j,none⟩=some (.int .u64 (ws[j]:Nat))/\w.frozen? ⟨g,j,none⟩=false:=by
 rcases h.row.2 with⟨_,e⟩|⟨g,cap,cur,rfl,h1,h2,h3,h4,h5,h6⟩
 ·omega
 ·refine⟨g,cap,rfl,h1,?_,frozen_of_row w g j _ _ h2⟩
  have:=h.row.cells (g:=g) rfl j _ (Cs ws j hj);simpa[Addr.add_lit] using this
theorem Qq(w:World)(n:Nat)(hn:n<=4096):wJ w.heap.size (w.alloc (.cells #[.int .i64 n,.int .i64 n,.slice none 0 0] 161)) w.heap.size n n (fun _=>false):=
 ⟨[],_,⟨heap_alloc_new w _,World.ownsRow_nil _ _ _ _,aac _,hn,aac _,by simp,by simp⟩,fun k=>by simp[aX]⟩
theorem dN(n:Nat)(hn:n<=4096)(w:World):
 Calls Tryz.prog 71 #[.int .i64 n] w fun e w'=>∃ b,e=.returned (.pointer (some ⟨b,0,none⟩))/\wJ w.heap.size w' b n n (fun _=>false)/\Kept w w':=by
 go_enter Tryz.func71,Tryz.ntmps71;go_wp2;go_ret;exact⟨_,rfl,Qq w n hn,(Kept.refl w).alloc _⟩
theorem lG(h:wJ B w b m l u):Calls Tryz.prog 67 #[.pointer (some ⟨b,0,none⟩)] w fun e w'=>e=.returned (.int .i64 l)/\w'=w:=by
 obtain⟨ws,v,k,hu⟩:=h.out;obtain⟨c0,c1,c2⟩:=k.cell;go_enter Tryz.func67,Tryz.ntmps67;go_wp2;go_ret;exact⟨rfl,rfl⟩
theorem xA:Calls Tryz.prog 67 #[.pointer none] w fun e w'=>e=.returned (.int .i64 0)/\w'=w:=by
 go_enter Tryz.func67,Tryz.ntmps67;go_wp2;go_ret;exact⟨rfl,rfl⟩
theorem EW(h:wJ B w b m l u)(n:Nat)(hn:n<m):Calls Tryz.prog 140 #[.pointer (some ⟨b,0,none⟩),.int .i64 n] w fun e w'=>e=.returned (.bool true)/\w'=w:=by
 obtain⟨ws,v,k,hu⟩:=h.out;obtain⟨c0,c1,c2⟩:=k.cell;have h1:(0:Int)<=(n:Int):=by omega
 have h2:(n:Int)<(m:Int):=by omega
 go_enter Tryz.func140,Tryz.ntmps140;go_wp2;go_ret;exact⟨by simp,rfl⟩
theorem UA(x j:Nat)(hx:x<18446744073709551616):(bits BinOp.and IntKind.u64 ((x:Int) / 2 ^ j) 1 == 1)=x.testBit j:=by
 have e1:(x:Int) / 2 ^ j=((x / 2 ^ j:Nat):Int):=by push_cast;rfl
 have hd:x / 2 ^ j<18446744073709551616:=Nat.lt_of_le_of_lt (Nat.div_le_self _ _) hx;rw[e1,show (1:Int)=((1:Nat):Int) from rfl,bits_and_u64_nat _ _ hd (by decide),Nat.testBit_eq_decide_div_mod_eq,Nat.and_one_is_mod,Bool.eq_iff_iff,beq_iff_eq,decide_eq_true_iff];omega
theorem xB(h:wJ B w b m l u)(n:Nat)(hn:n<9223372036854775808):Calls Tryz.prog 141 #[.pointer (some ⟨b,0,none⟩),.int .i64 n] w fun e w'=>e=.returned (.bool (u n))/\w'=w:=by
 obtain⟨ws,v,k,hu⟩:=h.out;obtain⟨c0,c1,c2⟩:=k.cell;have hl:=k.long;by_cases hj:n / 64<ws.length
 ·obtain⟨g,c,rfl,hg,hc,hf⟩:=k.oN (n / 64) hj
  have hb:Hid ((bits BinOp.and IntKind.u64 (((ws[n / 64]:Nat):Int) / 2 ^ (n % 64)) 1 == 1)=u n):=by
   show (bits BinOp.and IntKind.u64 (((ws[n / 64]:Nat):Int) / 2 ^ (n % 64)) 1 == 1)=u n;rw[UA _ _ (k.word _ (List.getElem_mem hj)),hu,aX,aaN,aae hj,Option.getD_some]
  clear hu;go_enter Tryz.func141,Tryz.ntmps141;go_wp2;go_ret;exact⟨congrArg (fun q=>Ending.returned (Value.bool q)) hb.out,rfl⟩
 ·obtain⟨p,c,rfl⟩:=k.form
  have hb:u n=false:=by rw[hu,aX,aaN,List.getElem?_eq_none (by omega)];simp
  clear hu;go_enter Tryz.func141,Tryz.ntmps141;go_wp2;go_ret;exact⟨rfl,rfl⟩
theorem A8(h:wJ B w b m l u)(n:Nat)(hn:n<m):Calls Tryz.prog 102 #[.pointer (some ⟨b,0,none⟩),.int .i64 n] w fun e w'=>e=.returned (.bool (u n))/\w'=w:=by
 obtain⟨ws,v,k,hu⟩:=h.out;have hm:=k.few;clear hu k;go_enter Tryz.func102,Tryz.ntmps102;go_wp2_with (first
  | (go_at_call 140;refine (EW h n hn).mono ?_;rintro e w' ⟨rfl,rfl⟩)
  | (go_at_call 141;refine (xB h n (by omega)).mono ?_;rintro e w' ⟨rfl,rfl⟩))
 go_ret;exact⟨rfl,rfl⟩
theorem Qr(h:wJ B w b m l u)(n:Nat)(hn:n<m)(hu:u n=true):Calls Tryz.prog 73 #[.pointer (some ⟨b,0,none⟩),.int .i64 n] w fun e w'=>e=.returned (.bool false)/\w'=w:=by
 have hc:=A8 h n hn;rw[hu]at hc;go_enter Tryz.func73,Tryz.ntmps73;go_wp2_with (go_at_call 102;refine hc.mono ?_;rintro e w' ⟨rfl,rfl⟩);go_ret;exact⟨rfl,rfl⟩
theorem L8(h:wJ B w b m l u)(n:Nat)(hn:n<m)(hu:u n=false):Calls Tryz.prog 143 #[.pointer (some ⟨b,0,none⟩),.int .i64 n] w fun e w'=>e=.returned (.bool false)/\w'=w:=by
 obtain⟨ws,v,k,_⟩:=h.out;have hm:=k.few;have hc:=xB h n (by omega);rw[hu]at hc;clear k;go_enter Tryz.func143,Tryz.ntmps143;go_wp2_with (first
  | (go_at_call 140;refine (EW h n hn).mono ?_;rintro e w' ⟨rfl,rfl⟩)
  | (go_at_call 141;refine hc.mono ?_;rintro e w' ⟨rfl,rfl⟩))
 go_ret;exact⟨rfl,rfl⟩
theorem rF(z:Value)(k:Nat):Builtin.zeroCells #[z] k=Array.replicate k z:=by
 apply Array.ext
 ·simp[Builtin.zeroCells]
 ·intro i h1 h2
  simp[Builtin.zeroCells,Nat.mod_one]
theorem EX:(Tryz.prog.info? 53).map (fun i=>(i.zero,i.size,i.bytes))=some (some (.int .u64 0),1,8):=by kernel_rfl
theorem zG(ws:List Nat)(k:Nat):aI (ws++List.replicate k 0)=aI ws++List.replicate k (.int .u64 0):=by
 simp[aI]
theorem lQ(ws:List Nat):(aI ws).length=ws.length:=by simp[aI]
theorem sZ(ho:w.ownsRow B 53 1 v ws.length (aI ws))(k:Nat)(h0:0<k)(hk:ws.length+k<=64)(hB:B<=w.heap.size)(ty:TypeId) :
  ∃ v' w',(Builtin.append_ #[159,3] ty #[v,.int .i64 k]).run Tryz.prog w=.ok v' w'/\w'.ownsRow B 53 1 v' (ws++List.replicate k 0).length (aI (ws++List.replicate k 0))/\w.grownBy w' v.ownBlock/\∃ g c,v'=.slice (some ⟨g,0,none⟩) (ws.length+k) c/\(v.ownBlock=some g\/g=w.heap.size):=by
 obtain⟨i,hi,hz,hs,hby⟩:=info_parts EX;have hl:(ws++List.replicate k 0).length=ws.length+k:=by simp
 rw[hl,zG];have grow:∀ (p:Option Addr) (c:Nat),c<ws.length+k->(Builtin.firstCells i.size ws.length (.slice p ws.length c)).run Tryz.prog w.drew=.ok (aI ws).toArray w.drew ->
   ∃ v' w',(Builtin.append_ #[159,3] ty #[.slice p ws.length c,.int .i64 k]).run Tryz.prog w=.ok v' w'/\w'.ownsRow B 53 1 v' (ws.length+k) (aI ws++List.replicate k (.int .u64 0))/\(∀ row,w.grownBy w' row)/\∃ c,v'=.slice (some ⟨w.heap.size,0,none⟩) (ws.length+k) c:=by
  intro p c hc hold;have hr:=Lib.run_append_grow_zeros (P:=Tryz.prog) w 159 3 ty 53 i (.int .u64 0) .i64 .i64 Tryz.underlying159 Tryz.underlying3 hi hz p ws.length c (aI ws) hold k h0 (by omega) hc (by omega) (by rw[hby];omega) (growslice_fits (by omega) (by rw[hby];omega));refine⟨_,_,hr,⟨by simp[aI],.inr ⟨w.heap.size,_,_,rfl,hB,heap_alloc_new w.drew _,grownCap_ge w _ c 53,grownCap_le_maxLen w _ c 53 (by unfold maxLen;omega),?_,?_⟩⟩,(fun row=>⟨rfl,rfl,rfl,by simp,fun q hq _=>heap_alloc_old w.drew _ hq⟩),_,rfl⟩
  ·have hge:=grownCap_ge w (ws.length+k) c 53
   simp only[Array.size_append,List.size_toArray,size_zeroCells,lQ];show ws.length+k*1+_*1=_*1;omega
  ·simp only[Array.toList_append,aap]
   have e:(Builtin.zeroCells (Value.int .u64 0).cells k).toList=List.replicate k (.int .u64 0):=by
    rw[show (Value.int .u64 0).cells=#[Value.int .u64 0] from rfl,rF];simp
   rw[e,<- aap];have hlen:(aI ws++List.replicate k (Value.int .u64 0)).length=(ws.length+k)*1:=by simp[aI]
   rw[<- hlen];exact List.take_left
 rcases ho.2 with⟨rfl,hn⟩|⟨g,cap,cur,rfl,hbg,hg,hnc,hcm,hcs,htake⟩
 ·have hw0:ws=[]:=List.eq_nil_of_length_eq_zero hn
  subst hw0;obtain⟨v',w',h1,h2,h3,c',h4⟩:=grow none 0 (by simpa using h0) (by simp[Builtin.firstCells,aI]);exact⟨v',w',h1,h2,h3 _,_,c',h4,.inr rfl⟩
 ·by_cases hroom:ws.length+k<=cap
  ·have e:(Builtin.zeroCells (Value.int .u64 0).cells k).toList=List.replicate k (.int .u64 0):=by
    rw[show (Value.int .u64 0).cells=#[Value.int .u64 0] from rfl,rF];simp
   have hst:=run_storeCells_at Tryz.prog g (ws.length*1) 53 (List.replicate k (.int .u64 0)) 0 cur w hg (by simp;omega) (by intro u hu;rw[List.eq_of_mem_replicate hu];rfl)
   simp only[Nat.add_zero]at hst
   have hw:IntKind.i64.wrap (k:Int)=k:=by rw[IntKind.wrap_i64];omega
   have h48i:¬ (281474976710656<(k:Int)*8):=by omega
   have hneg:¬ ((k:Int)<0):=by omega
   have hk0:k≠0:=by omega
   have hr:(Builtin.append_ #[159,3] ty #[.slice (some ⟨g,0,none⟩) ws.length cap,.int .i64 k]).run Tryz.prog w=.ok (.slice (some ⟨g,0,none⟩) (ws.length+k) cap) (w.setRow g (cur.toList.take (ws.length*1)++List.replicate k (Value.int .u64 0)++cur.toList.drop (ws.length*1+(List.replicate k (Value.int .u64 0)).length)).toArray):=by
    simp[Builtin.append_,run_underlying Tryz.underlying159,run_underlying Tryz.underlying3,sizeOf,typeInfo,zeroValue,hi,hz,hs,hby,asInt,asIntOf,hw,hneg,h48i,hk0,hroom,Addr.add_lit,e];have hst':=hst;simp at hst';rw[hst'];rfl
   refine⟨_,_,hr,⟨by simp[aI],.inr ⟨g,cap,_,rfl,hbg,setRow_heap w g cur _ 53 _ hg,hroom,hcm,?_,?_⟩⟩,⟨rfl,rfl,rfl,by simp,fun q _ hq=>setRow_other w g q _ (fun e=>hq (by simp[Value.ownBlock,e]))⟩,g,cap,rfl,.inl rfl⟩
   ·simp only[List.size_toArray,aah,aam,aaw,Array.length_toList,aa4]
    omega
   ·rw[htake]
    have hlen:(aI ws++List.replicate k (Value.int .u64 0)).length=(ws.length+k)*1:=by simp[aI]
    rw[<- hlen];exact List.take_left
  ·obtain⟨v',w',h1,h2,h3,c',h4⟩:=grow (some ⟨g,0,none⟩) cap (by omega) (run_firstCells_some _ _ _ _ _ _ _ (by rw[hs];simp[aI]) (fun j u hj=>ho.cells (g:=g) rfl j u hj))
   exact⟨v',w',h1,h2,h3 _,_,c',h4,.inr rfl⟩
theorem EY(ws:List Nat)(k j:Nat):(ws++List.replicate k 0).getD j 0=ws.getD j 0:=by
 simp only[aaN,List.getElem?_append];split
 ·rfl
 ·rename_i h
  rw[List.getElem?_eq_none (Nat.le_of_not_lt h),List.getElem?_replicate];split <;> rfl
theorem wpList_append_run{P:Program}{ops:Array Oper}{rest:List Oper}{o:Oper}{a:Go.Act}{Q:Exit->Go.Act->World->Prop}(hgd:o.guard=none)(s x:Operand)(ts:Array TypeId)(vs vx v':Value)(ho:o.op=.call { callee:=.builtin .append,args:=#[s,x],argTypes:=ts })(hs:a.eval s=vs)(hx:a.eval x=vx)(hr:(Builtin.append_ ts o.type #[vs,vx]).run P w=.ok v' w')(h:wpList P ops Q rest (a.put o.dst v') w'):wpList P ops Q (o :: rest) a w:=
 wpList_plain hgd fun _ hK=>by
  unfold Oper.wp execOp;simp only[ho,resolve,invoke,builtin,Sem.run_bind,Sem.run_pure,Result.andThen_ok,List.map_toArray,List.map_cons,List.map_nil,hs,hx,hr];exact hK _ _ h
theorem rT.qR(h:rT B w b m l ws v):∀ r,v.ownBlock=some r->B<=r/\∃ cs t fr,w.heap[r]? = some (.cells cs t fr)/\t=53:=by
 intro r hr;rcases h.row.2 with⟨rfl,_⟩|⟨g,cap,cur,rfl,hb,hg,_⟩
 ·cases hr
 ·injection hr with hr
  subst hr;exact⟨hb,_,_,_,hg,rfl⟩
theorem rT.grow{w3:World}{ws':List Nat}{v':Value}(h:rT B w b m l ws v)(hB:B<=w.heap.size)(hg:w.grownBy w3 v.ownBlock)(ho:w3.ownsRow B 53 1 v' ws'.length (aI ws'))(hl:ws'.length<=64)(hw:∀ x∈ws',x<18446744073709551616) :
  rT B (w3.setCell ⟨b,2,none⟩ v') b m l ws' v'/\On B w (w3.setCell ⟨b,2,none⟩ v')/\w3.cell? ⟨b,2,none⟩=some v/\w3.frozen? ⟨b,2,none⟩=false:=by
 have o1:On B w w3:=(On.refl B w).grown hB hg (fun r hr=>by obtain⟨h1,cs,t,fr,h2,rfl⟩:=h.qR r hr;exact⟨h1,cs,_,fr,h2,GQ⟩);have e1:w3.heap[b]? = w.heap[b]?:=hg.block b (aaa.1 h.blk).1 (fun e=>by
  obtain⟨_,cs,t,fr,hcs,rfl⟩:=h.qR b e.symm
  rw[h.blk]at hcs;injection hcs with hcs;injection hcs with _ e2 _;exact absurd e2 (by decide))
 have hb3:=e1.trans h.blk;have o2:On B w3 (w3.setCell ⟨b,2,none⟩ v'):=(On.refl B w3).setCell h.xz hb3 A7 2 v';refine⟨⟨?_,nC (i:=2) ho hb3 (by decide) v',h.xz,h.few,h.free,hl,hw⟩,o1.trans o2,?_,frozen_of_row w3 b _ _ _ hb3⟩
 ·rw[heap_setCell_same w3 b 2 _ _ _ hb3];rfl
 ·rw[cell_of_row w3 b _ _ _ _ hb3];rfl
theorem vQ(ws:List Nat)(k n:Nat):aX (ws++List.replicate k 0) n=aX ws n:=by simp only[aX,EY]
theorem EZ(h:wJ B w b m l u)(hB:B<=w.heap.size)(n:Nat)(hn:n<m):
 Calls Tryz.prog 103 #[.pointer (some ⟨b,0,none⟩),.int .i64 (n:Nat)] w fun e w'=>e=.returned (.tuple #[])/\(∃ ws v,rT B w' b m l ws v/\(∀ k,u k=aX ws k)/\n / 64<ws.length)/\On B w w':=by
 obtain⟨ws,v,k,hu⟩:=h.out;obtain⟨c0,c1,c2⟩:=k.cell;have hm:=k.few;have hl:=k.long;by_cases hj:n / 64<ws.length
 ·obtain⟨p,c,rfl⟩:=k.form
  have HU:Hid (∀ n,u n=aX ws n):=hu;clear hu;go_enter Tryz.func103,Tryz.ntmps103;go_wp2;first | go_end0 | refine bodyPost_ret (results_none rfl _ _ _) rfl ?_
  exact⟨rfl,⟨_,_,k,HU.out,hj⟩,On.refl _ _⟩
 ·obtain⟨q,hq⟩:∃ q:Nat,n / 64+1=ws.length+q:=⟨n / 64+1-ws.length,by omega⟩
  obtain⟨v',w3,hr,ho,hg,_⟩:=sZ k.row q (by omega) (by omega) hB 159;obtain⟨k3,o3,c3,f3⟩:=k.grow hB hg ho (by simp;omega) (by
   intro x hx
   rcases aav.1 hx with hx | hx
   ·exact k.word x hx
   ·rw[List.eq_of_mem_replicate hx];decide)
  have hlen:n / 64<(ws++List.replicate q 0).length:=by simp;omega
  have HU:Hid (∀ n,u n=aX (ws++List.replicate q 0) n):=by intro n;rw[vQ];exact hu n
  obtain⟨p,c,rfl⟩:=k.form;have hqq:((q:Nat):Int)=(n:Int) / 64+1-(ws.length:Int):=by omega
  rw[hqq]at hr;obtain⟨p',c',rfl⟩:=k3.form;clear hqq hu ho hg k;generalize ws++List.replicate q 0=ws' at k3 o3 hr c3 f3 hlen HU;have hlen':Hid (n / 64<ws'.length):=hlen;clear hlen;go_enter Tryz.func103,Tryz.ntmps103;go_wp2_with (at_builtin;refine wpList_append_run rfl _ _ _ _ _ _ rfl rfl rfl hr ?_);first | go_end0 | refine bodyPost_ret (results_none rfl _ _ _) rfl ?_
  exact⟨rfl,⟨_,_,k3,HU.out,hlen'.out⟩,o3⟩
theorem rT.put{g c:Nat}(h:rT B w b m l ws (.slice (some ⟨g,0,none⟩) ws.length c))(hB:B<=w.heap.size)(j:Nat)(x:Nat)(hx:x<18446744073709551616) :
  rT B (w.setCell ⟨g,j,none⟩ (.int .u64 x)) b m l (ws.set j x) (.slice (some ⟨g,0,none⟩) ws.length c)/\On B w (w.setCell ⟨g,j,none⟩ (.int .u64 x)):=by
 obtain⟨r1,g1⟩:=h.row.stored j (.int .u64 x);obtain⟨hb,cs,t,fr,hcs,rfl⟩:=h.qR g rfl;have o1:On B w _:=(On.refl B w).grown hB g1 (fun r hr=>by injection hr with hr;subst hr;exact⟨hb,cs,_,fr,hcs,GQ⟩);have e1:=g1.block b (aaa.1 h.blk).1 (fun e=>by
  injection e with e;subst e;rw[h.blk]at hcs;injection hcs with hcs;injection hcs with _ e2 _;exact absurd e2 (by decide))
 refine⟨⟨e1.trans h.blk,?_,h.xz,h.few,h.free,by simpa using h.long,?_⟩,o1⟩
 ·have:aI (ws.set j x)=(aI ws).set j (.int .u64 x):=by simp[aI,List.map_set]
  rw[this,List.length_set];exact r1
 ·intro y hy
  rcases List.mem_or_eq_of_mem_set hy with hy | rfl
  ·exact h.word y hy
  ·exact hx
theorem rT.count(h:rT B w b m l ws v)(l':Nat)(hl:l'<=m) :
  rT B (w.setCell ⟨b,1,none⟩ (.int .i64 l')) b m l' ws v/\On B w (w.setCell ⟨b,1,none⟩ (.int .i64 l')):=by
 refine⟨⟨?_,nC (i:=1) h.row h.blk (by decide) _,h.xz,h.few,hl,h.long,h.word⟩,(On.refl B w).setCell h.xz h.blk A7 1 _⟩;rw[heap_setCell_same w b 1 _ _ _ h.blk];rfl
def aS (u:Nat->Bool) (n:Nat):Nat->Bool:=fun k=>if k=n then true else u k
def bQ (u:Nat->Bool) (n:Nat):Nat->Bool:=fun k=>if k=n then false else u k
theorem zO(ws:List Nat)(n x k:Nat)(h:n / 64<ws.length):aX (ws.set (n / 64) x) k=if k / 64=n / 64 then x.testBit (k % 64) else aX ws k:=by
 unfold aX;simp only[aaN,List.getElem?_set];by_cases e:n / 64=k / 64
 ·rw[aao e,aao h,aao e.symm];rfl
 ·rw[aai e,aai (fun q=>e q.symm)]
theorem zP(ws:List Nat)(n k:Nat)(h:n / 64<ws.length):aX (ws.set (n / 64) (ws[n / 64] ||| 2 ^ (n % 64))) k=if k=n then true else aX ws k:=by
 rw[zO _ _ _ _ h];by_cases e:k / 64=n / 64
 ·rw[aao e,Nat.testBit_or,Nat.testBit_two_pow]
  have e2:aX ws k=ws[n / 64].testBit (k % 64):=by unfold aX;rw[e,aaN,aae h];rfl
  rw[e2];by_cases e3:k=n
  ·subst e3;simp
  ·rw[aai e3]
   have:n % 64≠k % 64:=by omega
   simp[this]
 ·rw[aai e,aai (fun q=>e (by rw[q]))]
theorem E5(ws:List Nat)(n k x:Nat)(h:n / 64<ws.length)(hx:∀ j,j<64->x.testBit j=(ws[n / 64].testBit j && !decide (j=n % 64))):aX (ws.set (n / 64) x) k=if k=n then false else aX ws k:=by
 rw[zO _ _ _ _ h];by_cases e:k / 64=n / 64
 ·rw[aao e,hx _ (by omega)]
  have e2:aX ws k=ws[n / 64].testBit (k % 64):=by unfold aX;rw[e,aaN,aae h];rfl
  rw[e2];by_cases e3:k=n
  ·subst e3;simp
  ·rw[aai e3]
   have:k % 64≠n % 64:=by omega
   simp[this]
 ·rw[aai e,aai (fun q=>e (by rw[q]))]
