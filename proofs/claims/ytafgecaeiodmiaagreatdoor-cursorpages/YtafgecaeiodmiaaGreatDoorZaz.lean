/- Joined. -/
import Derived.Test.YtafgecaeiodmiaaGreatDoorZax
import Derived.Test.YtafgecaeiodmiaaGreatDoorZay
namespace Go.Proofs.YtafgecaeiodmiaaGreatDoor.N
open Go.ChangeShapes Go.WideShapes Go.ChangeAt Go.RowKit
theorem saz1{α:Type}(l:List α)(i:Nat)(a:α):l.toArray.setIfInBounds i a=(l.set i a).toArray:=by simp
theorem saz2{α:Type}(x:α)(l:List α)(a:α):(x :: l).set 0 a=a :: l:=rfl
theorem saz3{α:Type}(x:α)(l:List α)(i:Nat)(a:α):(x :: l).set (i+1) a=x :: l.set i a:=rfl
structure Nd where
 leaf:Bool
 ks:List ByteArray
 vs:List Vl
 is:List Int
def Nd.item (x:Nd) (i:Nat):List Nat:=keyN (x.ks[i]?.getD ⟨#[]⟩)++(if x.leaf=true then valN (x.vs[i]?.getD ⟨⟨#[]⟩,-1,0⟩) else numL (x.is[i+1]?.getD 0).toNat)
def Nd.items (x:Nd):Nat→List Nat
 | 0=>[]
 | i+1=>x.items i++x.item i
def Nd.head (x:Nd):List Nat:=numL x.ks.length++(if x.leaf=true then [] else numL (x.is[0]?.getD 0).toNat)
def Nd.put (x:Nd):List Nat:=x.head++x.items x.ks.length
structure Good (x:Nd):Prop where
 few:x.ks.length≤120
 small:∀ k∈x.ks,k.size≤64
 lv:x.leaf=true→x.vs.length=x.ks.length∧x.is=[]
 li:x.leaf=false→x.is.length=x.ks.length+1∧x.vs=[]
 ok:∀ v∈x.vs,Okv v
 ik:∀ i∈x.is,∃ q:Nat,i=(q:Int)∧q≤16383
structure Rx (w:World) (e:TypeId) (p:Option Addr) (c:Nat):Prop where
 typ:∀ b off ph,p=some ⟨b,off,ph⟩→∃ cs fr,w.heap[b]? = some (.cells cs e fr)
 nil:p=none→c=0
def Nw (B:Nat) (p:Option Addr):Prop:=∀ b off ph,p=some ⟨b,off,ph⟩→B≤b
theorem Own.nw{w:World}{B:Nat}{e:TypeId}{sz:Nat}{p:Option Addr}{n c:Nat}{cs:List Value}(h:Own w B e sz p n c cs):Nw B p:=by
 intro b off ph e1;rcases h.cases with⟨e2,_⟩|⟨g,cur,e2,hB,_⟩
 ·rw[e2]at e1;cases e1
 ·rw[e2]at e1;injection e1 with e1;injection e1 with e1;subst e1;exact hB
theorem Nw.mono{B B':Nat}{p:Option Addr}(h:Nw B p)(k:B'≤B):Nw B' p:=fun b off ph e=>Nat.le_trans k (h b off ph e)
theorem Rx.none(w:World)(e:TypeId):Rx w e none 0:=⟨(fun _ _ _ h=>by cases h),fun _=>rfl⟩
theorem Rx.kept{w w':World}{e:TypeId}{p:Option Addr}{c:Nat}(h:Rx w e p c)(k:Kept w w'):Rx w' e p c:=
 ⟨(fun b off ph hp=>by obtain⟨cs,fr,hb⟩:=h.typ b off ph hp;exact⟨cs,fr,(k.out.block b (Array.getElem?_eq_some_iff.1 hb).1).trans hb⟩),h.nil⟩
theorem Own.rx{w:World}{B:Nat}{e:TypeId}{sz:Nat}{p:Option Addr}{n c:Nat}{cs:List Value}(k:Own w B e sz p n c cs):Rx w e p c:=by
 rcases k.cases with⟨rfl,_,rfl,_⟩|⟨g,cur,rfl,_,_,hg,_⟩
 ·exact Rx.none w e
 ·refine⟨fun b off ph hp=>?_,fun h=>by cases h⟩
  injection hp with hp
  injection hp with hp _ _
  subst hp;exact⟨cur,_,hg⟩
structure NV (w:World) (l:Bool) (kp:Option Addr) (nk kc:Nat) (vp:Option Addr) (nv vc:Nat) (ip:Option Addr) (ni ic:Nat) (x:Nd):Prop where
 hl:x.leaf=l
 k:Rw w 1 kp nk kc (kcl x.ks)
 v:Rw w 3 vp nv vc (vcl x.vs)
 i:Rw w 1 ip ni ic (icl x.is)
 kx:Rx w 9 kp kc
 vx:Rx w 35 vp vc
 ix:Rx w 3 ip ic
theorem NV.of{w:World}{l:Bool}{kp:Option Addr}{nk kc:Nat}{vp:Option Addr}{nv vc:Nat}{ip:Option Addr}{ni ic:Nat}{x:Nd}{B1 B2 B3:Nat}(hl:x.leaf=l)(k:Own w B1 9 1 kp nk kc (kcl x.ks))(v:Own w B2 35 3 vp nv vc (vcl x.vs))(i:Own w B3 3 1 ip ni ic (icl x.is)):NV w l kp nk kc vp nv vc ip ni ic x:=
 ⟨hl,k.rw,v.rw,i.rw,k.rx,v.rx,i.rx⟩
theorem NV.kept{w w':World}{l:Bool}{kp:Option Addr}{nk kc:Nat}{vp:Option Addr}{nv vc:Nat}{ip:Option Addr}{ni ic:Nat}{x:Nd}(h:NV w l kp nk kc vp nv vc ip ni ic x)(k:Kept w w'):NV w' l kp nk kc vp nv vc ip ni ic x:=⟨h.hl,k.rw h.k,k.rw h.v,k.rw h.i,h.kx.kept k,h.vx.kept k,h.ix.kept k⟩
theorem NV.nk{w:World}{l:Bool}{kp:Option Addr}{nk kc:Nat}{vp:Option Addr}{nv vc:Nat}{ip:Option Addr}{ni ic:Nat}{x:Nd}(h:NV w l kp nk kc vp nv vc ip ni ic x):x.ks.length=nk:=by
 have:=h.k.len;rwa [kcl_length,Nat.mul_one]at this
theorem NV.nv{w:World}{l:Bool}{kp:Option Addr}{nk kc:Nat}{vp:Option Addr}{nv vc:Nat}{ip:Option Addr}{ni ic:Nat}{x:Nd}(h:NV w l kp nk kc vp nv vc ip ni ic x):x.vs.length=nv:=by
 have:=h.v.len;rw[vcl_length]at this;omega
theorem NV.ni{w:World}{l:Bool}{kp:Option Addr}{nk kc:Nat}{vp:Option Addr}{nv vc:Nat}{ip:Option Addr}{ni ic:Nat}{x:Nd}(h:NV w l kp nk kc vp nv vc ip ni ic x):x.is.length=ni:=by
 have:=h.i.len;rwa [icl_length,Nat.mul_one]at this
theorem Rw.some{w:World}{sz:Nat}{p:Option Addr}{n c:Nat}{cs:List Value}(h:Rw w sz p n c cs)(hn:0<n):∃ b off,p=some ⟨b,off,none⟩∧∀ j u,cs[j]? = some u→w.cell? ⟨b,off+j,none⟩=some u:=
 h.out.resolve_left (fun q=>by omega)
theorem item_walk{w:World}{l:Bool}{kp:Option Addr}{nk kc:Nat}{vp:Option Addr}{nv vc:Nat}{ip:Option Addr}{ni ic:Nat}{x:Nd}(h:NV w l kp nk kc vp nv vc ip ni ic x)(g:Good x)(i:Nat)(hi:i<nk) :
  Calls Tryz.prog 146 #[.agg #[.bool l,.slice kp nk kc,.slice vp nv vc,.slice ip ni ic],.int .i64 (i:Nat)] w fun e w'=>e=.returned (.string (bs (x.item i)))∧Kept w w':=by
 have hnk:=h.nk;have hnv:=h.nv;have hni:=h.ni;obtain⟨k,hk⟩:∃ k,x.ks[i]? = some k:=⟨_,List.getElem?_eq_getElem (by omega)⟩;obtain⟨kb,ko,rfl,hkc⟩:=h.k.some (by omega);have c0:=hkc i _ (kcl_at hk);have hks:=g.small k (List.mem_of_getElem? hk);cases l with
 | true=>
  have hv2:=(g.lv h.hl).1;obtain⟨v,hv⟩:∃ v,x.vs[i]? = some v:=⟨_,List.getElem?_eq_getElem (by omega)⟩;obtain⟨vb,vo,rfl,hvc⟩:=h.v.some (by omega);obtain⟨a0,a1,a2⟩:=vcl_at hv;have b0:=hvc _ _ a0;have b1:=hvc _ _ a1;have b2:=hvc _ _ a2;rw[← Nat.add_assoc]at b1 b2;have e1:x.item i=keyN k++valN v:=by unfold Nd.item;rw[hk,hv,if_pos h.hl];rfl
  rw[e1];obtain⟨d,p,ln⟩:=v;rcases g.ok _ (List.mem_of_getElem? hv) with⟨h1,h2,h3⟩|⟨h1,p',l',h2,h3,h4,h5,h6⟩
  ·simp only at h1 h2 h3
   subst h1;subst h2;have e2:valN ⟨d,-1,0⟩=numL 0++(numL d.size++un d):=by unfold valN;rw[if_pos (by show (-1:Int)<0;decide)]
   rw[e2];exact item_here hi (by omega) c0 b0 b1 b2 hks h3
  ·simp only at h1 h2 h4
   subst h2;subst h4;have e2:valN ⟨d,(p':Int),(l':Int)⟩=numL 1++(numL p'++numL l'):=by unfold valN;rw[if_neg (by show ¬ (p':Int)<0;omega)];rfl
   rw[e2];exact item_apart hi (by omega) c0 b0 b1 b2 hks (by omega) (by omega)
 | false=>
  have hv2:=(g.li h.hl).1;obtain⟨v,hv⟩:∃ v,x.is[i+1]? = some v:=⟨_,List.getElem?_eq_getElem (by omega)⟩;obtain⟨ib,io,rfl,hvc⟩:=h.i.some (by omega);have b0:=hvc _ _ (icl_at hv);obtain⟨q,rfl,hq⟩:=g.ik v (List.mem_of_getElem? hv);have e1:x.item i=keyN k++numL q:=by unfold Nd.item;rw[hk,hv,if_neg (by rw[h.hl];decide)];rfl
  rw[e1];exact item_inner hi (by omega) (by have:=g.few;omega) c0 b0 hks (by omega)
structure St (W1:World) (L:List Nat) (W:World):Prop where
 b:Lib.IsBuilderF 222 5 W1.heap.size W1.heap.size (Lib.byteCells (L.map UInt8.ofNat)) W
 k:Kept W1 W
 len:L.length≤100000
theorem St.start(W1:World):St W1 [] (W1.alloc (.cells #[.pointer none,.slice none 0 0] 222)):=
 ⟨.inl ⟨Nat.le_refl _,.slice none 0 0,heap_alloc_new W1 _,World.ownsRowF_nil _ _ _ _,by simp[Value.ownBlock]⟩,(Kept.refl W1).alloc _,Nat.zero_le _⟩
theorem St.kept{W1 W W':World}{L:List Nat}(h:St W1 L W)(k:Kept W W'):St W1 L W':=by
 have key:∀ p,Lib.BuilderAtF 222 5 W1.heap.size W1.heap.size p (Lib.byteCells (L.map UInt8.ofNat)) W→Lib.BuilderAtF 222 5 W1.heap.size W1.heap.size p (Lib.byteCells (L.map UInt8.ofNat)) W':=by
  rintro p ⟨h1,v,h2,h3,h4⟩;exact⟨h1,v,k.block h2,h3.kept (k.grown none) (by cases v.ownBlock <;> simp),h4⟩
 exact⟨h.b.elim (fun x=>.inl (key _ x)) (fun x=>.inr (key _ x)),h.k.trans k,h.len⟩
theorem St.write{W1 W:World}{L:List Nat}(h:St W1 L W)(M:List Nat)(hm:L.length+M.length≤100000) :
  Calls Tryz.prog 134 #[.pointer (some ⟨W1.heap.size,0,none⟩),.string (bs M)] W fun e w'=>e=.returned (.tuple #[.int .i64 ((bs M).size:Nat),.nilIface])∧St W1 (L++M) w':=by
 refine (Tryz.Builder_WriteString_k _ _ _ (bs M) W h.b (by rw[Lib.byteCells_length,List.length_map,bs_size];omega) h.k.size).mono ?_;rintro e w' ⟨rfl,h1,h2,h3⟩;refine⟨rfl,⟨?_,⟨h.k.out.trans h2⟩,by rw[List.length_append];exact hm⟩⟩;rw[List.map_append,Lib.byteCells_append];exact Or.inr h1
theorem St.text{W1 W:World}{L:List Nat}(h:St W1 L W) :
  Calls Tryz.prog 136 #[.pointer (some ⟨W1.heap.size,0,none⟩)] W fun e w'=>e=.returned (.string (bs L))∧Kept W1 w':=by
 refine (Tryz.Builder_String_any_k _ _ (L.map UInt8.ofNat) W h.b h.k.size).mono ?_;rintro e w' ⟨rfl,_,h2,_⟩;exact⟨rfl,⟨h.k.out.trans h2⟩⟩
theorem item_length{x:Nd}(g:Good x)(i:Nat)(hi:i<x.ks.length):(x.item i).length≤115:=by
 obtain⟨k,hk⟩:∃ k,x.ks[i]? = some k:=⟨_,List.getElem?_eq_getElem hi⟩;have a:=keyN_length k (g.small k (List.mem_of_getElem? hk));unfold Nd.item;rw[hk,List.length_append];cases hl:x.leaf with
 | true=>
  have hv2:=(g.lv hl).1;obtain⟨v,hv⟩:∃ v,x.vs[i]? = some v:=⟨_,List.getElem?_eq_getElem (by omega)⟩;have b:=valN_length v (g.ok _ (List.mem_of_getElem? hv));rw[if_pos rfl,hv];show (keyN k).length+(valN v).length≤115;omega
 | false=>
  have hv2:=(g.li hl).1;obtain⟨v,hv⟩:∃ v,x.is[i+1]? = some v:=⟨_,List.getElem?_eq_getElem (by omega)⟩;obtain⟨q,rfl,hq⟩:=g.ik v (List.mem_of_getElem? hv);have b:=num_small q (by omega);rw[if_neg (by decide),hv];show (keyN k).length+(numL q).length≤115;omega
theorem items_length{x:Nd}(g:Good x):∀ i,i≤x.ks.length→(x.items i).length≤i*115
 | 0,_=>by simp[Nd.items]
 | i+1,h=>by
  have a:=items_length g i (by omega);have b:=item_length g i (by omega);rw[Nd.items,List.length_append];omega
theorem head_length{x:Nd}(g:Good x):x.head.length≤6:=by
 have a:=num_small x.ks.length (by have:=g.few;omega);unfold Nd.head;rw[List.length_append];split
 ·simp;omega
 ·rename_i hl
  have hv2:=(g.li (by simpa using hl)).1;obtain⟨v,hv⟩:∃ v,x.is[0]? = some v:=⟨_,List.getElem?_eq_getElem (by omega)⟩;obtain⟨q,rfl,hq⟩:=g.ik v (List.mem_of_getElem? hv);have b:=num_small q (by omega);rw[hv];show (numL x.ks.length).length+(numL q).length≤6;omega
theorem whole_walk{w:World}{l:Bool}{kp:Option Addr}{nk kc:Nat}{vp:Option Addr}{nv vc:Nat}{ip:Option Addr}{ni ic:Nat}{x:Nd}(h:NV w l kp nk kc vp nv vc ip ni ic x)(g:Good x) :
  Calls Tryz.prog 86 #[.agg #[.bool l,.slice kp nk kc,.slice vp nv vc,.slice ip ni ic]] w fun e w'=>∃ kp' kc' vp' nv' vc' ip' ni' ic',e=.returned (.agg #[.bool l,.slice kp' nk kc',.slice vp' nv' vc',.slice ip' ni' ic'])∧Own w' w.heap.size 9 1 kp' nk kc' (kcl x.ks)∧Own w' w.heap.size 35 3 vp' nv' vc' (vcl x.vs)∧Own w' w.heap.size 3 1 ip' ni' ic' (icl x.is)∧Kept w w':=by
 have hnk:=h.nk;have hnv:=h.nv;have hni:=h.ni;have hf:=g.few;cases l with
 | true=>
  obtain⟨e1,e2⟩:=g.lv h.hl;obtain rfl:nv=nk:=by omega
  refine (whole_leaf h.k h.v (kcl_one _) (vcl_one _) (by omega)).mono ?_;rintro e w' ⟨kp',kc',vp',rfl,o1,o2,k⟩;refine⟨_,_,_,_,_,_,_,_,rfl,o1,o2,?_,k⟩;rw[e2];exact⟨World.ownsRow_nil _ _ _ _⟩
 | false=>
  obtain⟨e1,e2⟩:=g.li h.hl;obtain rfl:ni=nk+1:=by omega
  refine (whole_inner h.k h.i (kcl_one _) (icl_one _) (by omega)).mono ?_;rintro e w' ⟨kp',kc',vp',rfl,o1,o2,k⟩;refine⟨_,_,_,_,_,_,_,_,rfl,o1,?_,o2,k⟩;rw[e2];exact⟨World.ownsRow_nil _ _ _ _⟩
set_option maxHeartbeats 1000000 in
set_option maxRecDepth 100000 in
theorem put_true{w:World}{kp:Option Addr}{nk kc:Nat}{vp:Option Addr}{nv vc:Nat}{ip:Option Addr}{ni ic:Nat}{x:Nd}(h:NV w true kp nk kc vp nv vc ip ni ic x)(g:Good x) :
    Calls Tryz.prog 116 #[.agg #[.bool true,.slice kp nk kc,.slice vp nv vc,.slice ip ni ic]] w fun e w'=>e=.returned (.string (bs x.put))∧Kept w w':=by
  have HW:Hid (∀ W,Kept w W→Calls Tryz.prog 86 #[.agg #[.bool true,.slice kp nk kc,.slice vp nv vc,.slice ip ni ic]] W fun e w'=>∃ kp' kc' vp' nv' vc' ip' ni' ic',e=.returned (.agg #[.bool true,.slice kp' nk kc',.slice vp' nv' vc',.slice ip' ni' ic'])∧Own w' W.heap.size 9 1 kp' nk kc' (kcl x.ks)∧Own w' W.heap.size 35 3 vp' nv' vc' (vcl x.vs)∧Own w' W.heap.size 3 1 ip' ni' ic' (icl x.is)∧Kept W w'):=fun W hW=>whole_walk (h.kept hW) g
  have hf:nk≤120:=by have:=g.few;have:=h.nk;omega
  have G:Hid (Good x):=g;have HKL:Hid (x.ks.length=nk):=h.nk;have HLF:Hid (x.leaf=true):=h.hl;have HN:Hid (∀ W,Calls Tryz.prog 145 #[.int .i64 (nk:Nat)] W fun e w'=>e=.returned (.string (bs (numL nk)))∧Kept W w'):=fun W=>number_walk nk (by omega) W
  have HHD:Hid (x.head=[]++numL nk):=by show _=_;unfold Nd.head;rw[if_pos h.hl,h.nk];simp
  have K0:Kept w (w.alloc (.cells #[.bool true,.slice kp nk kc,.slice vp nv vc,.slice ip ni ic] 71)):=(Kept.refl w).alloc _;have X0:=C4.alloc w 71 (.bool true) (.slice kp nk kc) (.slice vp nv vc) (.slice ip ni ic);have S0:=size_alloc w (.cells #[.bool true,.slice kp nk kc,.slice vp nv vc,.slice ip ni ic] 71);have HZ:Hid ((numL nk).length≤3):=num_small nk (by omega);have HIT:Hid (∀ i,i≤nk→(x.items i).length≤i*115):=fun i hi=>items_length g i (by have:=h.nk;omega)
  have HIL:Hid (∀ i,i<nk→(x.item i).length≤115):=fun i hi=>item_length g i (by have:=h.nk;omega)
  have HHL:Hid (x.head.length≤6):=head_length g;clear h g;go_enter Tryz.func116,Tryz.ntmps116;go_wp2_with (first
    | (go_at_call 86
       (with_reducible refine (HW.out _ K0).mono ?_)
       rintro e v1 ⟨kp1,kc1,vp1,nv1,vc1,ip1,ni1,ic1,rfl,O1,O2,O3,k1⟩
       have X1:=X0.kept k1
       have K1:=K0.trans k1
       rw[S0]at O1 O2 O3
       obtain⟨⟨g0,f0⟩,⟨g1,f1⟩,⟨g2,f2⟩,⟨g3,f3⟩,hfin⟩:=ready4 X1.out (.bool true) (.slice kp1 nk kc1) (.slice vp1 nv1 vc1) (.slice ip1 ni1 ic1)
       obtain⟨W1,hW1,V1,K2,hsz,c4⟩:∃ W1,Hid (W1=((((v1.setCell ⟨w.heap.size,0,none⟩ (.bool true)).setCell ⟨w.heap.size,1,none⟩ (.slice kp1 nk kc1)).setCell ⟨w.heap.size,2,none⟩ (.slice vp1 nv1 vc1)).setCell ⟨w.heap.size,3,none⟩ (.slice ip1 ni1 ic1)))∧NV W1 true kp1 nk kc1 vp1 nv1 vc1 ip1 ni1 ic1 x∧Kept w W1∧Hid (W1.heap.size=v1.heap.size)∧C4 W1 w.heap.size 71 (.bool true) (.slice kp1 nk kc1) (.slice vp1 nv1 vc1) (.slice ip1 ni1 ic1):=⟨_,rfl,(NV.of HLF.out (O1.st4 (Nat.lt_succ_self _) _ _ _ _) (O2.st4 (Nat.lt_succ_self _) _ _ _ _) (O3.st4 (Nat.lt_succ_self _) _ _ _ _)),K1.st4 (Nat.le_refl _) _ _ _ _,(by show _=_;rw[size_set,size_set,size_set,size_set]),⟨hfin⟩⟩
       have HWr:Hid (∀ W L M,St W1 L W→L.length+M.length≤100000→Calls Tryz.prog 134 #[.pointer (some ⟨v1.heap.size,0,none⟩),.string (bs M)] W fun e w'=>e=.returned (.tuple #[.int .i64 ((bs M).size:Nat),.nilIface])∧St W1 (L++M) w'):=(fun W L M hS hM=>by rw[← hsz.out];exact hS.write M hM)
       have HTx:Hid (∀ W L,St W1 L W→Calls Tryz.prog 136 #[.pointer (some ⟨v1.heap.size,0,none⟩)] W fun e w'=>e=.returned (.string (bs L))∧Kept W1 w'):=(fun W L hS=>by rw[← hsz.out];exact hS.text)
       have T1:St W1 [] (((((v1.setCell ⟨w.heap.size,0,none⟩ (.bool true)).setCell ⟨w.heap.size,1,none⟩ (.slice kp1 nk kc1)).setCell ⟨w.heap.size,2,none⟩ (.slice vp1 nv1 vc1)).setCell ⟨w.heap.size,3,none⟩ (.slice ip1 ni1 ic1)).alloc (.cells #[.pointer none,.slice none 0 0] 222)):=(by rw[← hW1.out];exact St.start W1)
       have q1:=(c4.kept T1.k).cs.2.1
       clear HW X0 K0 S0 O1 O2 O3 k1 X1 K1 hfin)
    | (go_at_call 145
       (with_reducible refine (HN.out _).mono ?_)
       rintro e v2 ⟨rfl,k2⟩
       have T2:=T1.kept k2
       clear T1 HN k2 g0 f0 g1 f1 g2 f2 g3 f3)
    | (go_at_call 134
       (with_reducible refine (HWr.out _ _ _ T2 (by have:=HZ.out;simp;omega)).mono ?_)
       rintro e v3 ⟨rfl,T3⟩
       obtain⟨a0,a1,a2,a3⟩:=(c4.kept T3.k).cs
       clear T2
       skip))
  have T9:St W1 (x.head++x.items 0) v3:=by
    have:x.head++x.items 0=[]++numL nk:=by rw[HHD.out];simp[Nd.items]
    rw[this];exact T3
  go_loopg [24] nk (fun gg v wx=>∃ i:Nat,v=.int .i64 (i:Nat)∧Hid (gg=nk-i)∧i≤nk∧Hid (St W1 (x.head++x.items i) wx));case atStart=>exact⟨0,rfl,rfl,Nat.zero_le _,T9⟩
  case round=>
    obtain⟨i,rfl,hg,hin,T⟩:=hrel;by_cases h1:i<nk
    · have h1':(i:Int)<(nk:Int):=by omega
      obtain⟨b0,b1,b2,b3⟩:=(c4.kept T.out.k).cs;have HI:Hid (∀ W,Kept W1 W→Calls Tryz.prog 146 #[.agg #[.bool true,.slice kp1 nk kc1,.slice vp1 nv1 vc1,.slice ip1 ni1 ic1],.int .i64 (i:Nat)] W fun e w'=>e=.returned (.string (bs (x.item i)))∧Kept W w'):=fun W hW=>item_walk (V1.kept hW) G.out i h1
      have hlen:(x.head++x.items i).length+(x.item i).length≤100000:=by
        have p1:=HIT.out i hin;have p2:=HIL.out i h1;have p3:=HHL.out;rw[List.length_append];omega
      have HLen:Hid ((x.head++x.items i).length+(x.item i).length≤100000):=hlen;clear hlen;go_wp2_with (first
        | (go_at_call 146
           (with_reducible refine (HI.out _ T.out.k).mono ?_)
           rintro e v5 ⟨rfl,k5⟩
           have T5:=T.out.kept k5)
        | (go_at_call 134
           (with_reducible refine (HWr.out _ _ _ T5 HLen.out).mono ?_)
           rintro e v6 ⟨rfl,T6⟩))
      go_roundg (nk-(i+1));case measure=>rw[hg.out];omega
      case rel=>exact⟨i+1,by go_num,rfl,by omega,by rw[Nd.items,← List.append_assoc];exact T6⟩
    · obtain rfl:i=nk:=by omega
      have h1':¬ ((i:Int)<(i:Int)):=by omega
      go_wp2_with (first
        | (go_at_call 136
           (with_reducible refine (HTx.out _ _ T.out).mono ?_)
           rintro e v7 ⟨rfl,k7⟩))
      go_ret;refine⟨?_,K2.trans k7⟩;unfold Nd.put;rw[HKL.out];rfl
set_option maxHeartbeats 1000000 in
set_option maxRecDepth 100000 in
theorem put_false{w:World}{kp:Option Addr}{nk kc:Nat}{vp:Option Addr}{nv vc:Nat}{ip:Option Addr}{ni ic:Nat}{x:Nd}(h:NV w false kp nk kc vp nv vc ip ni ic x)(g:Good x) :
    Calls Tryz.prog 116 #[.agg #[.bool false,.slice kp nk kc,.slice vp nv vc,.slice ip ni ic]] w fun e w'=>e=.returned (.string (bs x.put))∧Kept w w':=by
  have HW:Hid (∀ W,Kept w W→Calls Tryz.prog 86 #[.agg #[.bool false,.slice kp nk kc,.slice vp nv vc,.slice ip ni ic]] W fun e w'=>∃ kp' kc' vp' nv' vc' ip' ni' ic',e=.returned (.agg #[.bool false,.slice kp' nk kc',.slice vp' nv' vc',.slice ip' ni' ic'])∧Own w' W.heap.size 9 1 kp' nk kc' (kcl x.ks)∧Own w' W.heap.size 35 3 vp' nv' vc' (vcl x.vs)∧Own w' W.heap.size 3 1 ip' ni' ic' (icl x.is)∧Kept W w'):=fun W hW=>whole_walk (h.kept hW) g
  have hf:nk≤120:=by have:=g.few;have:=h.nk;omega
  have G:Hid (Good x):=g;have HKL:Hid (x.ks.length=nk):=h.nk;have HLF:Hid (x.leaf=false):=h.hl;have HN:Hid (∀ W,Calls Tryz.prog 145 #[.int .i64 (nk:Nat)] W fun e w'=>e=.returned (.string (bs (numL nk)))∧Kept W w'):=fun W=>number_walk nk (by omega) W
  obtain⟨q,hq0,hqs⟩:∃ q:Nat,x.is[0]? = some (q:Int)∧q≤16383:=by
    have hv2:=(g.li h.hl).1;obtain⟨v,hv⟩:∃ v,x.is[0]? = some v:=⟨_,List.getElem?_eq_getElem (by omega)⟩;obtain⟨q,rfl,hq⟩:=g.ik v (List.mem_of_getElem? hv);exact⟨q,hv,hq⟩
  have HQ0:Hid (x.is[0]? = some (q:Int)):=hq0;have HHD:Hid (x.head=[]++numL nk++numL q):=by show _=_;unfold Nd.head;rw[if_neg (by rw[h.hl];decide),h.nk,hq0];simp
  have HQ:Hid (∀ W,Calls Tryz.prog 145 #[.int .i64 (q:Nat)] W fun e w'=>e=.returned (.string (bs (numL q)))∧Kept W w'):=fun W=>number_walk q (by omega) W
  have HZ2:Hid ((numL q).length≤3):=num_small q (by omega);have HIL2:Hid (x.is.length=nk+1):=by show _=_;have:=(g.li h.hl).1;have:=h.nk;omega
  clear hq0;have K0:Kept w (w.alloc (.cells #[.bool false,.slice kp nk kc,.slice vp nv vc,.slice ip ni ic] 71)):=(Kept.refl w).alloc _;have X0:=C4.alloc w 71 (.bool false) (.slice kp nk kc) (.slice vp nv vc) (.slice ip ni ic);have S0:=size_alloc w (.cells #[.bool false,.slice kp nk kc,.slice vp nv vc,.slice ip ni ic] 71);have HZ:Hid ((numL nk).length≤3):=num_small nk (by omega);have HIT:Hid (∀ i,i≤nk→(x.items i).length≤i*115):=fun i hi=>items_length g i (by have:=h.nk;omega)
  have HIL:Hid (∀ i,i<nk→(x.item i).length≤115):=fun i hi=>item_length g i (by have:=h.nk;omega)
  have HHL:Hid (x.head.length≤6):=head_length g;clear h g;go_enter Tryz.func116,Tryz.ntmps116;go_wp2_with (first
    | (go_at_call 86
       (with_reducible refine (HW.out _ K0).mono ?_)
       rintro e v1 ⟨kp1,kc1,vp1,nv1,vc1,ip1,ni1,ic1,rfl,O1,O2,O3,k1⟩
       have X1:=X0.kept k1
       have K1:=K0.trans k1
       rw[S0]at O1 O2 O3
       obtain⟨⟨g0,f0⟩,⟨g1,f1⟩,⟨g2,f2⟩,⟨g3,f3⟩,hfin⟩:=ready4 X1.out (.bool false) (.slice kp1 nk kc1) (.slice vp1 nv1 vc1) (.slice ip1 ni1 ic1)
       obtain⟨W1,hW1,V1,K2,hsz,c4⟩:∃ W1,Hid (W1=((((v1.setCell ⟨w.heap.size,0,none⟩ (.bool false)).setCell ⟨w.heap.size,1,none⟩ (.slice kp1 nk kc1)).setCell ⟨w.heap.size,2,none⟩ (.slice vp1 nv1 vc1)).setCell ⟨w.heap.size,3,none⟩ (.slice ip1 ni1 ic1)))∧NV W1 false kp1 nk kc1 vp1 nv1 vc1 ip1 ni1 ic1 x∧Kept w W1∧Hid (W1.heap.size=v1.heap.size)∧C4 W1 w.heap.size 71 (.bool false) (.slice kp1 nk kc1) (.slice vp1 nv1 vc1) (.slice ip1 ni1 ic1):=⟨_,rfl,(NV.of HLF.out (O1.st4 (Nat.lt_succ_self _) _ _ _ _) (O2.st4 (Nat.lt_succ_self _) _ _ _ _) (O3.st4 (Nat.lt_succ_self _) _ _ _ _)),K1.st4 (Nat.le_refl _) _ _ _ _,(by show _=_;rw[size_set,size_set,size_set,size_set]),⟨hfin⟩⟩
       have HWr:Hid (∀ W L M,St W1 L W→L.length+M.length≤100000→Calls Tryz.prog 134 #[.pointer (some ⟨v1.heap.size,0,none⟩),.string (bs M)] W fun e w'=>e=.returned (.tuple #[.int .i64 ((bs M).size:Nat),.nilIface])∧St W1 (L++M) w'):=(fun W L M hS hM=>by rw[← hsz.out];exact hS.write M hM)
       have HTx:Hid (∀ W L,St W1 L W→Calls Tryz.prog 136 #[.pointer (some ⟨v1.heap.size,0,none⟩)] W fun e w'=>e=.returned (.string (bs L))∧Kept W1 w'):=(fun W L hS=>by rw[← hsz.out];exact hS.text)
       have T1:St W1 [] (((((v1.setCell ⟨w.heap.size,0,none⟩ (.bool false)).setCell ⟨w.heap.size,1,none⟩ (.slice kp1 nk kc1)).setCell ⟨w.heap.size,2,none⟩ (.slice vp1 nv1 vc1)).setCell ⟨w.heap.size,3,none⟩ (.slice ip1 ni1 ic1)).alloc (.cells #[.pointer none,.slice none 0 0] 222)):=(by rw[← hW1.out];exact St.start W1)
       have q1:=(c4.kept T1.k).cs.2.1
       clear HW X0 K0 S0 O1 O2 O3 k1 X1 K1 hfin)
    | (go_at_call 145
       (with_reducible refine (HN.out _).mono ?_)
       rintro e v2 ⟨rfl,k2⟩
       have T2:=T1.kept k2
       clear T1 HN k2 g0 f0 g1 f1 g2 f2 g3 f3)
    | (go_at_call 134
       (with_reducible refine (HWr.out _ _ _ T2 (by have:=HZ.out;simp;omega)).mono ?_)
       rintro e v3 ⟨rfl,T3⟩
       obtain⟨a0,a1,a2,a3⟩:=(c4.kept T3.k).cs
       clear T2
       have hni:=V1.ni
       rw[HIL2.out]at hni
       subst hni
       obtain⟨ib,io,rfl,hic⟩:=V1.i.some (Nat.succ_pos _)
       have hq1:=T3.k.cell (hic 0 _ (icl_at HQ0.out))
       rw[Nat.add_zero]at hq1
       clear hic)
    | (go_at_call 145
       (with_reducible refine (HQ.out _).mono ?_)
       rintro e v4 ⟨rfl,k4⟩
       have T4:=T3.kept k4
       clear T3 HQ k4)
    | (go_at_call 134
       (with_reducible refine (HWr.out _ _ _ T4 (by have:=HZ.out;have:=HZ2.out;simp;omega)).mono ?_)
       rintro e v5 ⟨rfl,T5⟩
       obtain⟨b0,b1,b2,b3⟩:=(c4.kept T5.k).cs
       clear T4))
  have T9:St W1 (x.head++x.items 0) v5:=by
    have:x.head++x.items 0=[]++numL nk++numL q:=by rw[HHD.out];simp[Nd.items]
    rw[this];exact T5
  go_loopg [24] nk (fun gg v wx=>∃ i:Nat,v=.int .i64 (i:Nat)∧Hid (gg=nk-i)∧i≤nk∧Hid (St W1 (x.head++x.items i) wx));case atStart=>exact⟨0,rfl,rfl,Nat.zero_le _,T9⟩
  case round=>
    obtain⟨i,rfl,hg,hin,T⟩:=hrel;by_cases h1:i<nk
    · have h1':(i:Int)<(nk:Int):=by omega
      obtain⟨b0,b1,b2,b3⟩:=(c4.kept T.out.k).cs;have HI:Hid (∀ W,Kept W1 W→Calls Tryz.prog 146 #[.agg #[.bool false,.slice kp1 nk kc1,.slice vp1 nv1 vc1,.slice (some ⟨ib,io,none⟩) (nk+1) ic1],.int .i64 (i:Nat)] W fun e w'=>e=.returned (.string (bs (x.item i)))∧Kept W w'):=fun W hW=>item_walk (V1.kept hW) G.out i h1
      have hlen:(x.head++x.items i).length+(x.item i).length≤100000:=by
        have p1:=HIT.out i hin;have p2:=HIL.out i h1;have p3:=HHL.out;rw[List.length_append];omega
      have HLen:Hid ((x.head++x.items i).length+(x.item i).length≤100000):=hlen;clear hlen;go_wp2_with (first
        | (go_at_call 146
           (with_reducible refine (HI.out _ T.out.k).mono ?_)
           rintro e v5 ⟨rfl,k5⟩
           have T5:=T.out.kept k5)
        | (go_at_call 134
           (with_reducible refine (HWr.out _ _ _ T5 HLen.out).mono ?_)
           rintro e v6 ⟨rfl,T6⟩))
      go_roundg (nk-(i+1));case measure=>rw[hg.out];omega
      case rel=>exact⟨i+1,by go_num,rfl,by omega,by rw[Nd.items,← List.append_assoc];exact T6⟩
    · obtain rfl:i=nk:=by omega
      have h1':¬ ((i:Int)<(i:Int)):=by omega
      go_wp2_with (first
        | (go_at_call 136
           (with_reducible refine (HTx.out _ _ T.out).mono ?_)
           rintro e v7 ⟨rfl,k7⟩))
      go_ret;refine⟨?_,K2.trans k7⟩;unfold Nd.put;rw[HKL.out];rfl
theorem put_walk{w:World}{l:Bool}{kp:Option Addr}{nk kc:Nat}{vp:Option Addr}{nv vc:Nat}{ip:Option Addr}{ni ic:Nat}{x:Nd}(h:NV w l kp nk kc vp nv vc ip ni ic x)(g:Good x) :
  Calls Tryz.prog 116 #[.agg #[.bool l,.slice kp nk kc,.slice vp nv vc,.slice ip ni ic]] w fun e w'=>e=.returned (.string (bs x.put))∧Kept w w':=by
 cases l with
 | true=>exact put_true h g
 | false=>exact put_false h g
theorem vcl_more{vs:List Vl}{i:Nat}{v:Vl}(h:vs[i]? = some v):vcl (vs.take (i+1))=vcl (vs.take i)++[.string v.d,.int .i64 v.p,.int .i64 v.l]:=by
 rw[List.take_add_one,h,vcl_append];simp[vcl,Vl.cells]
theorem three_cells(w:World)(a b c:Value)(t:TypeId):∀ (j:Nat) (v:Value),[a,b,c][j]? = some v→(w.alloc (.cells #[a,b,c] t)).drew.cell? ((⟨w.heap.size,0,none⟩:Addr).add j)=some v:=by
 intro j v hj;rw[Addr.add_lit,Nat.zero_add];show (w.alloc (.cells #[a,b,c] t)).cell? ⟨w.heap.size,j,none⟩=some v;rw[World.cell?_alloc_at _ _ _ _ rfl];simpa using hj
def Nd.sz (x:Nd) (i:Nat):Nat:=(x.item i).length
def Nd.tot (x:Nd) (i:Nat):Nat:=(x.items i).length
theorem Nd.tot_zero(x:Nd):x.tot 0=0:=rfl
theorem Nd.tot_succ(x:Nd)(i:Nat):x.tot (i+1)=x.tot i+x.sz i:=by
 unfold Nd.tot Nd.sz;rw[Nd.items,List.length_append]
theorem Nd.tot_mono(x : Nd){i j : Nat}(h : i ≤ j) : x.tot i ≤ x.tot j := by
  induction j with
  | zero => obtain rfl : i = 0 := by omega
            exact Nat.le_refl _
  | succ j ih =>
    by_cases e : i = j + 1
    · subst e; exact Nat.le_refl _
    · have := ih (by omega)
      rw [Nd.tot_succ];omega
def Nd.gr (x:Nd) (i:Nat):Nat:=max (x.tot i) (x.tot x.ks.length-x.tot (if x.leaf=true then i else i+1))
theorem Nd.gr_leaf{x:Nd}(h:x.leaf=true)(i:Nat):x.gr i=max (x.tot i) (x.tot x.ks.length-x.tot i):=by
 unfold Nd.gr;rw[if_pos h]
theorem Nd.gr_inner{x:Nd}(h:x.leaf=false)(i:Nat):x.gr i=max (x.tot i) (x.tot x.ks.length-x.tot (i+1)):=by
 unfold Nd.gr;rw[if_neg (by rw[h];decide)]
theorem Nd.gr_le(x:Nd){i:Nat}(h:i≤x.ks.length):x.gr i≤x.tot x.ks.length:=by
 have:=x.tot_mono h;unfold Nd.gr;omega
structure Mid (x:Nd) (a m:Nat):Prop where
 lo:a≤m
 lt:m<x.ks.length
 before:∀ j,a≤j→j<m→x.gr m<x.gr j
 after:∀ j,m≤j→j<x.ks.length→x.gr m≤x.gr j
theorem Mid.one{x:Nd}{a m m':Nat}(h:Mid x a m)(h':Mid x a m'):m=m':=by
 by_cases h1:m<m'
 ·have a1:=h'.before m h.lo h1
  have a2:=h.after m' (by omega) h'.lt;omega
 ·by_cases h2:m'<m
  ·have a1:=h.before m' h'.lo h2
   have a2:=h'.after m (by omega) h.lt;omega
  ·omega
def Lst (x:Nd) (a i m:Nat) (l:Int) (most:Int):Prop:=
 (i=a∧m=0∧l=most)∨(a≤m∧m<i∧l=((x.gr m:Nat):Int)∧(∀ j,a≤j→j<m→x.gr m<x.gr j)∧∀ j,m≤j→j<i→x.gr m≤x.gr j)
theorem Lst.less{x:Nd}{a i m:Nat}{l most:Int}(h:Lst x a i m l most)(hi:a≤i)(hl:(l=most∧i=a)∨((x.gr i:Nat):Int)<l):Lst x a (i+1) i ((x.gr i:Nat):Int) most:=by
 refine .inr ⟨hi,by omega,rfl,?_,?_⟩
 ·intro j h1 h2
  rcases h with⟨e,_⟩|⟨p1,p2,p3,p4,p5⟩
  ·omega
  ·rcases hl with⟨_,h3⟩|hl
   ·omega
   ·by_cases e:j<m
    ·have:=p4 j h1 e;omega
    ·have:=p5 j (by omega) h2;omega
 ·intro j h1 h2
  obtain rfl:i=j:=by omega
  exact Nat.le_refl _
theorem Lst.more{x:Nd}{a i m:Nat}{l most:Int}(h:Lst x a i m l most)(hl:¬ ((x.gr i:Nat):Int)<l)(hm:¬ (l=most∧i=a)):Lst x a (i+1) m l most:=by
 rcases h with⟨e,_,e2⟩|⟨p1,p2,p3,p4,p5⟩
 ·exact absurd ⟨e2,e⟩ hm
 ·refine .inr ⟨p1,by omega,p3,p4,?_⟩
  intro j h1 h2;by_cases e:j=i
  ·subst e;omega
  ·exact p5 j h1 (by omega)
theorem Lst.done{x:Nd}{a m:Nat}{l most:Int}(h:Lst x a x.ks.length m l most)(hn:a<x.ks.length):Mid x a m:=by
 rcases h with⟨e,_⟩|⟨p1,p2,p3,p4,p5⟩
 ·omega
 ·exact⟨p1,p2,p4,p5⟩
theorem tot_bound{x:Nd}(g:Good x)(i:Nat)(h:i≤x.ks.length):x.tot i≤13800:=by
 have a:=items_length g i h;have b:=g.few;unfold Nd.tot;omega
theorem sz_eq(x:Nd)(i:Nat):(bs (x.item i)).size=x.sz i:=bs_size _
set_option maxHeartbeats 1000000 in
set_option maxRecDepth 100000 in
theorem low_walk{w:World}{l:Bool}{kp:Option Addr}{nk kc:Nat}{vp:Option Addr}{nv vc:Nat}{ip:Option Addr}{ni ic:Nat}{x:Nd}(h:NV w l kp nk kc vp nv vc ip ni ic x)(g:Good x) :
    Calls Tryz.prog 91 #[.agg #[.bool l,.slice kp nk kc,.slice vp nv vc,.slice ip ni ic]] w fun e w'=>e=.returned (.bool (decide (x.put.length<79)))∧Kept w w':=by
  have K0:Kept w (w.alloc (.cells #[.bool l,.slice kp nk kc,.slice vp nv vc,.slice ip ni ic] 71)):=(Kept.refl w).alloc _;have HP:=put_walk (h.kept K0) g;have hs:=bs_size x.put;have e1:decide (((bs x.put).size:Int)<79)=decide (x.put.length<79):=by rw[hs];exact decide_eq_decide.2 (by omega)
  rw[← e1];generalize bs x.put=s at *;clear hs e1 h;go_enter Tryz.func91,Tryz.ntmps91;go_wp2_with (first
    | (go_at_call 116
       (with_reducible refine HP.mono ?_)
       rintro e v1 ⟨rfl,k1⟩))
  go_ret;exact⟨rfl,K0.trans k1⟩
set_option maxHeartbeats 2000000 in
set_option maxRecDepth 100000 in
theorem middle_true{w:World}{kp:Option Addr}{nk kc:Nat}{vp:Option Addr}{nv vc:Nat}{ip:Option Addr}{ni ic:Nat}{x:Nd}(h:NV w true kp nk kc vp nv vc ip ni ic x)(g:Good x)(hn:0<nk) :
    Calls Tryz.prog 150 #[.agg #[.bool true,.slice kp nk kc,.slice vp nv vc,.slice ip ni ic]] w fun e w'=>∃ m:Nat,e=.returned (.int .i64 (m:Nat))∧Mid x 0 m∧Kept w w':=by
  have hf:nk≤120:=by have:=g.few;have:=h.nk;omega
  have G:Hid (Good x):=g;have HV:Hid (NV w true kp nk kc vp nv vc ip ni ic x):=h;have HKL:Hid (x.ks.length=nk):=h.nk;have HTB:Hid (∀ i,i≤nk→x.tot i≤13800):=fun i hi=>tot_bound g i (by have:=h.nk;omega)
  have K0:Kept w (w.alloc (.cells #[.bool true,.slice kp nk kc,.slice vp nv vc,.slice ip ni ic] 71)):=(Kept.refl w).alloc _;have X0:=C4.alloc w 71 (.bool true) (.slice kp nk kc) (.slice vp nv vc) (.slice ip ni ic);clear h g;go_enter Tryz.func150,Tryz.ntmps150;go_wp2;go_loopg [4,14] nk (fun gg bv iv wx=>∃ i:Nat,bv=.int .i64 ((x.tot i:Nat):Int)∧iv=.int .i64 (i:Nat)∧Hid (gg=nk-i)∧i≤nk∧C4 wx w.heap.size 71 (.bool true) (.slice kp nk kc) (.slice vp nv vc) (.slice ip ni ic)∧Kept w wx);case atStart=>exact⟨0,rfl,rfl,rfl,Nat.zero_le _,X0,K0⟩
  case round=>
    obtain⟨i,rfl,rfl,hg,hin,X,K⟩:=hrel;obtain⟨b0,b1,b2,b3⟩:=X.cs;clear X0 K0;by_cases h1:i<nk
    · have h1':(i:Int)<(nk:Int):=by omega
      have HI:Hid (∀ W,Kept w W→Calls Tryz.prog 146 #[.agg #[.bool true,.slice kp nk kc,.slice vp nv vc,.slice ip ni ic],.int .i64 (i:Nat)] W fun e w'=>e=.returned (.string (bs (x.item i)))∧Kept W w'):=fun W hW=>item_walk (HV.out.kept hW) G.out i h1
      have HE:Hid (x.tot (i+1)=x.tot i+(bs (x.item i)).size):=by show _=_;rw[sz_eq,Nd.tot_succ]
      have hle:=HTB.out (i+1) (by omega);rw[HE.out]at hle;generalize x.tot i=a at *;generalize bs (x.item i)=s at *;have u1:IntKind.i64.wrap ((a:Int)+(s.size:Int))=(a:Int)+(s.size:Int):=by rw[IntKind.wrap_i64];omega
      go_wp2_with (first
        | (go_at_call 146
           (with_reducible refine (HI.out _ K).mono ?_)
           rintro e v5 ⟨rfl,k5⟩))
      go_roundg (nk-(i+1));case measure=>rw[hg.out];omega
      case rel=>exact⟨i+1,by rw[HE.out];go_num,by go_num,rfl,by omega,X.kept k5,K.trans k5⟩
    · obtain rfl:nk=i:=by omega
      have h1':¬ ((nk:Int)<(nk:Int)):=by omega
      go_wp2;go_loopg [3,4,6,7,27] nk (fun gg av bv mv lv iv wx=>∃ (i a b m:Nat) (l:Int),av=.int .i64 (a:Nat)∧bv=.int .i64 (b:Nat)∧mv=.int .i64 (m:Nat)∧lv=.int .i64 l∧iv=.int .i64 (i:Nat)∧Hid (gg=nk-i)∧i≤nk∧Hid (a=x.tot i∧a+b=x.tot nk)∧Hid (Lst x 0 i m l 9223372036854775807)∧C4 wx w.heap.size 71 (.bool true) (.slice kp nk kc) (.slice vp nv vc) (.slice ip ni ic)∧Kept w wx);case atStart=>exact⟨0,0,x.tot nk,0,9223372036854775807,rfl,rfl,rfl,rfl,rfl,rfl,Nat.zero_le _,⟨rfl,Nat.zero_add _⟩,.inl ⟨rfl,rfl,rfl⟩,X,K⟩
      case round=>
        obtain⟨i,a,b,m,l,rfl,rfl,rfl,rfl,rfl,hg,hin,HAB,HL,X,K⟩:=hrel;obtain⟨b0,b1,b2,b3⟩:=X.cs;by_cases h1:i<nk
        · have h1':(i:Int)<(nk:Int):=by omega
          have HI:Hid (∀ W,Kept w W→Calls Tryz.prog 146 #[.agg #[.bool true,.slice kp nk kc,.slice vp nv vc,.slice ip ni ic],.int .i64 (i:Nat)] W fun e w'=>e=.returned (.string (bs (x.item i)))∧Kept W w'):=fun W hW=>item_walk (HV.out.kept hW) G.out i h1
          have HZ:Hid ((bs (x.item i)).size=x.sz i):=sz_eq x i;have hle:a+b≤13800:=by rw[HAB.out.2];exact HTB.out nk (Nat.le_refl _)
          have hsb:(bs (x.item i)).size≤b:=by
            have q:=HAB.out;have q2:=x.tot_mono (show i+1≤nk by omega);rw[Nd.tot_succ,← HZ.out]at q2;omega
          have HNX:Hid (a+(bs (x.item i)).size=x.tot (i+1)):=by
            have q:=HAB.out;show _=_;rw[Nd.tot_succ,← HZ.out];omega
          generalize bs (x.item i)=s at *;have HGR:Hid (((x.gr i:Nat):Int)=max (a:Int) (b:Int)):=by
            show _=_;rw[Nd.gr_leaf HV.out.hl,HKL.out]
            
            have q:=HAB.out;omega
          have u1:IntKind.i64.wrap ((a:Int)+(s.size:Int))=(a:Int)+(s.size:Int):=by rw[IntKind.wrap_i64];omega
          have u2:IntKind.i64.wrap ((b:Int)-(s.size:Int))=(b:Int)-(s.size:Int):=by rw[IntKind.wrap_i64];omega
          by_cases hlt:max (a:Int) (b:Int)<l
          · go_wp2_with (first
              | (go_at_call 146
                 (with_reducible refine (HI.out _ K).mono ?_)
                 rintro e v5 ⟨rfl,k5⟩
                 have X5:=X.kept k5
                 obtain⟨d0,d1,d2,d3⟩:=X5.cs))
            go_roundg (nk-(i+1))
            case measure=>rw[hg.out];omega
            case rel=>exact⟨i+1,a+s.size,b-s.size,i,max (a:Int) (b:Int),by go_num,by go_num,rfl,rfl,by go_num,rfl,by omega,⟨HNX.out,by have:=HAB.out;omega⟩,by rw[← HGR.out];exact HL.out.less (Nat.zero_le _) (.inr (by rw[HGR.out];exact hlt)),X5,K.trans k5⟩
          · go_wp2_with (first
              | (go_at_call 146
                 (with_reducible refine (HI.out _ K).mono ?_)
                 rintro e v5 ⟨rfl,k5⟩
                 have X5:=X.kept k5
                 obtain⟨d0,d1,d2,d3⟩:=X5.cs))
            go_roundg (nk-(i+1))
            case measure=>rw[hg.out];omega
            case rel=>exact⟨i+1,a+s.size,b-s.size,m,l,by go_num,by go_num,rfl,rfl,by go_num,rfl,by omega,⟨HNX.out,by have:=HAB.out;omega⟩,HL.out.more (by rw[HGR.out];exact Int.not_lt.2 hlt) (by rintro⟨e1,_⟩;rw[e1]at hlt;omega),X5,K.trans k5⟩
        · obtain rfl:nk=i:=by omega
          have h1':¬ ((nk:Int)<(nk:Int)):=by omega
          go_wp2;go_ret;exact⟨m,rfl,by have q:=HL.out;rw[← HKL.out]at q hn;exact q.done hn,K⟩
set_option maxHeartbeats 2000000 in
set_option maxRecDepth 100000 in
theorem middle_false{w:World}{kp:Option Addr}{nk kc:Nat}{vp:Option Addr}{nv vc:Nat}{ip:Option Addr}{ni ic:Nat}{x:Nd}(h:NV w false kp nk kc vp nv vc ip ni ic x)(g:Good x)(hn:0<nk) :
    Calls Tryz.prog 150 #[.agg #[.bool false,.slice kp nk kc,.slice vp nv vc,.slice ip ni ic]] w fun e w'=>∃ m:Nat,e=.returned (.int .i64 (m:Nat))∧Mid x 0 m∧Kept w w':=by
  have hf:nk≤120:=by have:=g.few;have:=h.nk;omega
  have G:Hid (Good x):=g;have HV:Hid (NV w false kp nk kc vp nv vc ip ni ic x):=h;have HKL:Hid (x.ks.length=nk):=h.nk;have HTB:Hid (∀ i,i≤nk→x.tot i≤13800):=fun i hi=>tot_bound g i (by have:=h.nk;omega)
  have K0:Kept w (w.alloc (.cells #[.bool false,.slice kp nk kc,.slice vp nv vc,.slice ip ni ic] 71)):=(Kept.refl w).alloc _;have X0:=C4.alloc w 71 (.bool false) (.slice kp nk kc) (.slice vp nv vc) (.slice ip ni ic);clear h g;go_enter Tryz.func150,Tryz.ntmps150;go_wp2;go_loopg [4,14] nk (fun gg bv iv wx=>∃ i:Nat,bv=.int .i64 ((x.tot i:Nat):Int)∧iv=.int .i64 (i:Nat)∧Hid (gg=nk-i)∧i≤nk∧C4 wx w.heap.size 71 (.bool false) (.slice kp nk kc) (.slice vp nv vc) (.slice ip ni ic)∧Kept w wx);case atStart=>exact⟨0,rfl,rfl,rfl,Nat.zero_le _,X0,K0⟩
  case round=>
    obtain⟨i,rfl,rfl,hg,hin,X,K⟩:=hrel;obtain⟨b0,b1,b2,b3⟩:=X.cs;clear X0 K0;by_cases h1:i<nk
    · have h1':(i:Int)<(nk:Int):=by omega
      have HI:Hid (∀ W,Kept w W→Calls Tryz.prog 146 #[.agg #[.bool false,.slice kp nk kc,.slice vp nv vc,.slice ip ni ic],.int .i64 (i:Nat)] W fun e w'=>e=.returned (.string (bs (x.item i)))∧Kept W w'):=fun W hW=>item_walk (HV.out.kept hW) G.out i h1
      have HE:Hid (x.tot (i+1)=x.tot i+(bs (x.item i)).size):=by show _=_;rw[sz_eq,Nd.tot_succ]
      have hle:=HTB.out (i+1) (by omega);rw[HE.out]at hle;generalize x.tot i=a at *;generalize bs (x.item i)=s at *;have u1:IntKind.i64.wrap ((a:Int)+(s.size:Int))=(a:Int)+(s.size:Int):=by rw[IntKind.wrap_i64];omega
      go_wp2_with (first
        | (go_at_call 146
           (with_reducible refine (HI.out _ K).mono ?_)
           rintro e v5 ⟨rfl,k5⟩))
      go_roundg (nk-(i+1));case measure=>rw[hg.out];omega
      case rel=>exact⟨i+1,by rw[HE.out];go_num,by go_num,rfl,by omega,X.kept k5,K.trans k5⟩
    · obtain rfl:nk=i:=by omega
      have h1':¬ ((nk:Int)<(nk:Int)):=by omega
      go_wp2;go_loopg [3,4,6,7,27] nk (fun gg av bv mv lv iv wx=>∃ (i a b m:Nat) (l:Int),av=.int .i64 (a:Nat)∧bv=.int .i64 (b:Nat)∧mv=.int .i64 (m:Nat)∧lv=.int .i64 l∧iv=.int .i64 (i:Nat)∧Hid (gg=nk-i)∧i≤nk∧Hid (a=x.tot i∧a+b=x.tot nk)∧Hid (Lst x 0 i m l 9223372036854775807)∧C4 wx w.heap.size 71 (.bool false) (.slice kp nk kc) (.slice vp nv vc) (.slice ip ni ic)∧Kept w wx);case atStart=>exact⟨0,0,x.tot nk,0,9223372036854775807,rfl,rfl,rfl,rfl,rfl,rfl,Nat.zero_le _,⟨rfl,Nat.zero_add _⟩,.inl ⟨rfl,rfl,rfl⟩,X,K⟩
      case round=>
        obtain⟨i,a,b,m,l,rfl,rfl,rfl,rfl,rfl,hg,hin,HAB,HL,X,K⟩:=hrel;obtain⟨b0,b1,b2,b3⟩:=X.cs;by_cases h1:i<nk
        · have h1':(i:Int)<(nk:Int):=by omega
          have HI:Hid (∀ W,Kept w W→Calls Tryz.prog 146 #[.agg #[.bool false,.slice kp nk kc,.slice vp nv vc,.slice ip ni ic],.int .i64 (i:Nat)] W fun e w'=>e=.returned (.string (bs (x.item i)))∧Kept W w'):=fun W hW=>item_walk (HV.out.kept hW) G.out i h1
          have HZ:Hid ((bs (x.item i)).size=x.sz i):=sz_eq x i;have hle:a+b≤13800:=by rw[HAB.out.2];exact HTB.out nk (Nat.le_refl _)
          have hsb:(bs (x.item i)).size≤b:=by
            have q:=HAB.out;have q2:=x.tot_mono (show i+1≤nk by omega);rw[Nd.tot_succ,← HZ.out]at q2;omega
          have HNX:Hid (a+(bs (x.item i)).size=x.tot (i+1)):=by
            have q:=HAB.out;show _=_;rw[Nd.tot_succ,← HZ.out];omega
          generalize bs (x.item i)=s at *;have HGR:Hid (((x.gr i:Nat):Int)=max (a:Int) ((b:Int)-(s.size:Int))):=by
            show _=_;rw[Nd.gr_inner HV.out.hl,HKL.out];rw[Nd.tot_succ,← HZ.out];have q:=HAB.out;omega
          have u1:IntKind.i64.wrap ((a:Int)+(s.size:Int))=(a:Int)+(s.size:Int):=by rw[IntKind.wrap_i64];omega
          have u2:IntKind.i64.wrap ((b:Int)-(s.size:Int))=(b:Int)-(s.size:Int):=by rw[IntKind.wrap_i64];omega
          by_cases hlt:max (a:Int) ((b:Int)-(s.size:Int))<l
          · go_wp2_with (first
              | (go_at_call 146
                 (with_reducible refine (HI.out _ K).mono ?_)
                 rintro e v5 ⟨rfl,k5⟩
                 have X5:=X.kept k5
                 obtain⟨d0,d1,d2,d3⟩:=X5.cs))
            go_roundg (nk-(i+1))
            case measure=>rw[hg.out];omega
            case rel=>exact⟨i+1,a+s.size,b-s.size,i,max (a:Int) ((b:Int)-(s.size:Int)),by go_num,by go_num,rfl,rfl,by go_num,rfl,by omega,⟨HNX.out,by have:=HAB.out;omega⟩,by rw[← HGR.out];exact HL.out.less (Nat.zero_le _) (.inr (by rw[HGR.out];exact hlt)),X5,K.trans k5⟩
          · go_wp2_with (first
              | (go_at_call 146
                 (with_reducible refine (HI.out _ K).mono ?_)
                 rintro e v5 ⟨rfl,k5⟩
                 have X5:=X.kept k5
                 obtain⟨d0,d1,d2,d3⟩:=X5.cs))
            go_roundg (nk-(i+1))
            case measure=>rw[hg.out];omega
            case rel=>exact⟨i+1,a+s.size,b-s.size,m,l,by go_num,by go_num,rfl,rfl,by go_num,rfl,by omega,⟨HNX.out,by have:=HAB.out;omega⟩,HL.out.more (by rw[HGR.out];exact Int.not_lt.2 hlt) (by rintro⟨e1,_⟩;rw[e1]at hlt;omega),X5,K.trans k5⟩
        · obtain rfl:nk=i:=by omega
          have h1':¬ ((nk:Int)<(nk:Int)):=by omega
          go_wp2;go_ret;exact⟨m,rfl,by have q:=HL.out;rw[← HKL.out]at q hn;exact q.done hn,K⟩
theorem middle_walk{w:World}{l:Bool}{kp:Option Addr}{nk kc:Nat}{vp:Option Addr}{nv vc:Nat}{ip:Option Addr}{ni ic:Nat}{x:Nd}(h:NV w l kp nk kc vp nv vc ip ni ic x)(g:Good x)(hn:0<nk) :
  Calls Tryz.prog 150 #[.agg #[.bool l,.slice kp nk kc,.slice vp nv vc,.slice ip ni ic]] w fun e w'=>∃ m:Nat,e=.returned (.int .i64 (m:Nat))∧Mid x 0 m∧Kept w w':=by
 cases l with
 | true=>exact middle_true h g hn
 | false=>exact middle_false h g hn
theorem put_len{x:Nd}:x.put.length=x.head.length+x.tot x.ks.length:=by
 unfold Nd.put Nd.tot;rw[List.length_append]
theorem great_few{x:Nd}(g:Good x)(h:237<x.put.length):3≤x.ks.length:=by
 rw[put_len]at h;have a:=head_length g;have b:=items_length g x.ks.length (Nat.le_refl _);unfold Nd.tot at h;omega
abbrev opnpd0:Go.Oper:={ dst:=some 3,op:=.assign (.tmp 79),type:=9,pos:= "node.go:204",after:=#[⟨24,.data⟩,⟨25,.chain⟩,⟨0,.phase⟩,⟨1,.phase⟩,⟨2,.phase⟩,⟨3,.phase⟩,⟨4,.phase⟩,⟨5,.phase⟩,⟨6,.phase⟩,⟨7,.phase⟩,⟨8,.phase⟩,⟨9,.phase⟩,⟨10,.phase⟩,⟨11,.phase⟩,⟨12,.phase⟩,⟨13,.phase⟩,⟨14,.phase⟩,⟨15,.phase⟩,⟨16,.phase⟩,⟨17,.phase⟩,⟨18,.phase⟩,⟨19,.phase⟩,⟨20,.phase⟩,⟨21,.phase⟩,⟨22,.phase⟩,⟨23,.phase⟩,⟨24,.phase⟩,⟨25,.phase⟩],guard:=none }
abbrev opnpd1:Go.Oper:={ dst:=some 2,op:=.assign (.tmp 78),type:=203,pos:= "node.go:204",after:=#[⟨23,.data⟩,⟨22,.chain⟩,⟨0,.phase⟩,⟨1,.phase⟩,⟨2,.phase⟩,⟨3,.phase⟩,⟨4,.phase⟩,⟨5,.phase⟩,⟨6,.phase⟩,⟨7,.phase⟩,⟨8,.phase⟩,⟨9,.phase⟩,⟨10,.phase⟩,⟨11,.phase⟩,⟨12,.phase⟩,⟨13,.phase⟩,⟨14,.phase⟩,⟨15,.phase⟩,⟨16,.phase⟩,⟨17,.phase⟩,⟨18,.phase⟩,⟨19,.phase⟩,⟨20,.phase⟩,⟨21,.phase⟩,⟨22,.phase⟩,⟨23,.phase⟩,⟨24,.textOnly .lateStores⟩],guard:=none }
abbrev opnpd2:Go.Oper:={ dst:=some 77,op:=.call { callee:=.value (.func 94),args:=#[.tmp 76],argTypes:=#[71] },type:=71,pos:= "node.go:206",after:=#[⟨21,.data⟩,⟨10,.chain⟩],guard:=none }
abbrev opnpd3:Go.Oper:={ dst:=some 78,op:=.buildSlice 203 2 #[(0,.tmp 65),(1,.tmp 77)],type:=203,pos:= "node.go:204",after:=#[⟨10,.data⟩,⟨22,.data⟩],guard:=none }
abbrev opnpd4:Go.Oper:={ dst:=some 70,op:=.slice 22 (.tmp 67) (some (.tmp 69)) none none,type:=22,pos:= "node.go:204",after:=#[⟨12,.data⟩,⟨14,.data⟩],guard:=none }
abbrev opnpd5:Go.Oper:={ dst:=some 75,op:=.slice 49 (.tmp 72) (some (.tmp 74)) none none,type:=49,pos:= "node.go:204",after:=#[⟨17,.data⟩,⟨19,.data⟩],guard:=none }
abbrev opnpd6:Go.Oper:={ dst:=some 58,op:=.slice 22 (.tmp 56) none (some (.tmp 57)) none,type:=22,pos:= "node.go:204",after:=#[⟨1,.data⟩,⟨2,.data⟩],guard:=none }
abbrev opnpd7:Go.Oper:={ dst:=some 63,op:=.slice 49 (.tmp 60) none (some (.tmp 62)) none,type:=49,pos:= "node.go:204",after:=#[⟨5,.data⟩,⟨7,.data⟩],guard:=none }
abbrev opnpd8:Go.Oper:={ dst:=some 65,op:=.call { callee:=.value (.func 94),args:=#[.tmp 64],argTypes:=#[71] },type:=71,pos:= "node.go:205",after:=#[⟨9,.data⟩],guard:=none }
abbrev opnpd9:Go.Oper:={ dst:=some 76,op:=.build 71 #[(1,.tmp 70),(3,.tmp 75)],type:=71,pos:= "node.go:204",after:=#[⟨15,.data⟩,⟨20,.data⟩],guard:=none }
abbrev opnpd10:Go.Oper:={ dst:=some 64,op:=.build 71 #[(1,.tmp 58),(3,.tmp 63)],type:=71,pos:= "node.go:204",after:=#[⟨3,.data⟩,⟨8,.data⟩],guard:=none }
abbrev opnpd11:Go.Oper:={ dst:=some 69,op:=.binOp .add 3 (.tmp 68) (.const (Go.Value.int .i64 1)) 3,type:=3,pos:= "node.go:204",after:=#[⟨13,.data⟩],guard:=none }
abbrev opnpd12:Go.Oper:={ dst:=some 74,op:=.binOp .add 3 (.tmp 73) (.const (Go.Value.int .i64 1)) 3,type:=3,pos:= "node.go:204",after:=#[⟨18,.data⟩],guard:=none }
abbrev opnpd13:Go.Oper:={ dst:=some 62,op:=.binOp .add 3 (.tmp 61) (.const (Go.Value.int .i64 1)) 3,type:=3,pos:= "node.go:204",after:=#[⟨6,.data⟩],guard:=none }
abbrev opnpd14:Go.Oper:={ dst:=some 79,op:=.move (.tmp 5),type:=9,pos:= "node.go:204",after:=#[⟨25,.gcOnly .lateStores⟩],guard:=none }
abbrev opnpd15:Go.Oper:={ dst:=some 67,op:=.load 22 (.tmp 66),type:=22,pos:= "node.go:204",after:=#[⟨11,.data⟩],guard:=none }
abbrev opnpd16:Go.Oper:={ dst:=some 72,op:=.load 49 (.tmp 71),type:=49,pos:= "node.go:204",after:=#[⟨16,.data⟩],guard:=none }
abbrev opnpd17:Go.Oper:={ dst:=some 56,op:=.load 22 (.tmp 55),type:=22,pos:= "node.go:204",after:=#[⟨0,.data⟩],guard:=none }
abbrev opnpd18:Go.Oper:={ dst:=some 60,op:=.load 49 (.tmp 59),type:=49,pos:= "node.go:204",after:=#[⟨4,.data⟩],guard:=none }
abbrev opnpd19:Go.Oper:={ dst:=some 55,op:=.fieldAddr 71 (.tmp 1) 1,type:=0,pos:= "node.go:204",after:=#[],guard:=none }
abbrev opnpd20:Go.Oper:={ dst:=some 59,op:=.fieldAddr 71 (.tmp 1) 3,type:=0,pos:= "node.go:204",after:=#[],guard:=none }
abbrev opnpd21:Go.Oper:={ dst:=some 66,op:=.fieldAddr 71 (.tmp 1) 1,type:=0,pos:= "node.go:204",after:=#[],guard:=none }
abbrev opnpd22:Go.Oper:={ dst:=some 71,op:=.fieldAddr 71 (.tmp 1) 3,type:=0,pos:= "node.go:204",after:=#[],guard:=none }
abbrev opnpd23:Go.Oper:={ dst:=some 57,op:=.move (.tmp 4),type:=3,pos:= "node.go:204",after:=#[],guard:=none }
abbrev opnpd24:Go.Oper:={ dst:=some 61,op:=.move (.tmp 4),type:=3,pos:= "node.go:204",after:=#[],guard:=none }
abbrev opnpd25:Go.Oper:={ dst:=some 68,op:=.move (.tmp 4),type:=3,pos:= "node.go:204",after:=#[],guard:=none }
abbrev opnpd26:Go.Oper:={ dst:=some 73,op:=.move (.tmp 4),type:=3,pos:= "node.go:204",after:=#[],guard:=none }
theorem Rw.take{w:World}{sz:Nat}{p:Option Addr}{n c:Nat}{cs:List Value}(h:Rw w sz p n c cs)(k:Nat)(hk:k≤n):Rw w sz p k c (cs.take (k*sz)):=by
 refine⟨?_,Nat.le_trans hk h.le,h.cap,?_⟩
 ·rw[List.length_take,h.len]
  exact Nat.min_eq_left (Nat.mul_le_mul_right _ hk)
 ·rcases h.out with⟨e1,e2⟩|⟨b,o,e1,e2⟩
  ·exact .inl ⟨e1,by omega⟩
  ·refine .inr ⟨b,o,e1,fun j u hu=>e2 j u ?_⟩
   rw[List.getElem?_take]at hu;split at hu
   ·exact hu
   ·cases hu
theorem row_drop{w:World}{sz b o n c:Nat}{cs:List Value}(hc:∀ j u,cs[j]? = some u→w.cell? ⟨b,o+j,none⟩=some u)(hl:cs.length=n*sz)(hn:n≤c)(hm:c≤maxLen)(k:Nat)(hk:k≤n):Rw w sz (some ⟨b,o+k*sz,none⟩) (n-k) (c-k) (cs.drop (k*sz)):=by
 refine⟨?_,by omega,by omega,.inr ⟨_,_,rfl,fun j u hu=>?_⟩⟩
 ·rw[List.length_drop,hl,Nat.sub_mul]
 ·rw[List.getElem?_drop]at hu
  rw[Nat.add_assoc];exact hc _ u hu
theorem kcl_take(ks:List ByteArray)(m:Nat):kcl (ks.take m)=(kcl ks).take (m*1):=by
 unfold kcl;rw[Nat.mul_one,List.map_take]
theorem kcl_drop(ks:List ByteArray)(m:Nat):kcl (ks.drop m)=(kcl ks).drop (m*1):=by
 unfold kcl;rw[Nat.mul_one,List.map_drop]
theorem icl_take(ks:List Int)(m:Nat):icl (ks.take m)=(icl ks).take (m*1):=by
 unfold icl;rw[Nat.mul_one,List.map_take]
theorem icl_drop(ks:List Int)(m:Nat):icl (ks.drop m)=(icl ks).drop (m*1):=by
 unfold icl;rw[Nat.mul_one,List.map_drop]
structure NZ (w:World) (l:Bool) (kp:Option Addr) (nk kc:Nat) (vp:Option Addr) (nv vc:Nat) (ip:Option Addr) (ni ic:Nat) (x:Nd):Prop where
 nv:NV w l kp nk kc vp nv vc ip ni ic x
 kz:kp=none→kc=0
 vz:vp=none→vc=0
 iz:ip=none→ic=0
theorem NZ.kept{w w':World}{l:Bool}{kp:Option Addr}{nk kc:Nat}{vp:Option Addr}{nv vc:Nat}{ip:Option Addr}{ni ic:Nat}{x:Nd}(h:NZ w l kp nk kc vp nv vc ip ni ic x)(k:Kept w w'):NZ w' l kp nk kc vp nv vc ip ni ic x:=⟨h.nv.kept k,h.kz,h.vz,h.iz⟩
theorem Own.z{w:World}{B:Nat}{e:TypeId}{sz:Nat}{p:Option Addr}{n c:Nat}{cs:List Value}(k:Own w B e sz p n c cs):p=none→c=0:=by
 intro h;rcases k.cases with⟨_,_,h2,_⟩|⟨g,cur,h2,_⟩
 ·exact h2
 ·rw[h]at h2;cases h2
def Nd.fst (x:Nd) (m:Nat):Nd:=if x.leaf=true then ⟨true,x.ks.take m,x.vs.take m,[]⟩ else ⟨false,x.ks.take m,[],x.is.take (m+1)⟩
def Nd.snd (x:Nd) (m:Nat):Nd:=if x.leaf=true then ⟨true,x.ks.drop m,x.vs.drop m,[]⟩ else ⟨false,x.ks.drop (m+1),[],x.is.drop (m+1)⟩
set_option maxHeartbeats 1000000 in
set_option maxRecDepth 100000 in
theorem part_small{w:World}{l:Bool}{kp:Option Addr}{nk kc:Nat}{vp:Option Addr}{nv vc:Nat}{ip:Option Addr}{ni ic:Nat}{x:Nd}(h:NV w l kp nk kc vp nv vc ip ni ic x)(g:Good x)(hs:x.put.length≤237) :
    Calls Tryz.prog 118 #[.agg #[.bool l,.slice kp nk kc,.slice vp nv vc,.slice ip ni ic]] w fun e w'=>∃ (g:Nat) (kp':Option Addr) (kc':Nat) (vp':Option Addr) (nv' vc':Nat) (ip':Option Addr) (ni' ic':Nat),e=.returned (.tuple #[.slice (some ⟨g,0,none⟩) 1 1,.string ⟨#[]⟩])∧C4 w' g 71 (.bool l) (.slice kp' nk kc') (.slice vp' nv' vc') (.slice ip' ni' ic')∧NV w' l kp' nk kc' vp' nv' vc' ip' ni' ic' x∧Kept w w':=by
  have HW:Hid (∀ W,Kept w W→Calls Tryz.prog 86 #[.agg #[.bool l,.slice kp nk kc,.slice vp nv vc,.slice ip ni ic]] W fun e w'=>∃ kp' kc' vp' nv' vc' ip' ni' ic',e=.returned (.agg #[.bool l,.slice kp' nk kc',.slice vp' nv' vc',.slice ip' ni' ic'])∧Own w' W.heap.size 9 1 kp' nk kc' (kcl x.ks)∧Own w' W.heap.size 35 3 vp' nv' vc' (vcl x.vs)∧Own w' W.heap.size 3 1 ip' ni' ic' (icl x.is)∧Kept W w'):=fun W hW=>whole_walk (h.kept hW) g
  have HLF:Hid (x.leaf=l):=h.hl;have HP:Hid (∀ (W:World) (kp:Option Addr) (nk kc:Nat) (vp:Option Addr) (nv vc:Nat) (ip:Option Addr) (ni ic:Nat),NV W l kp nk kc vp nv vc ip ni ic x→Calls Tryz.prog 116 #[.agg #[.bool l,.slice kp nk kc,.slice vp nv vc,.slice ip ni ic]] W fun e w'=>e=.returned (.string (bs x.put))∧Kept W w'):=fun W kp nk kc vp nv vc ip ni ic h=>put_walk h g
  have K0:Kept w (w.alloc (.cells #[.bool l,.slice kp nk kc,.slice vp nv vc,.slice ip ni ic] 71)):=(Kept.refl w).alloc _;have X0:=C4.alloc w 71 (.bool l) (.slice kp nk kc) (.slice vp nv vc) (.slice ip ni ic);have S0:=size_alloc w (.cells #[.bool l,.slice kp nk kc,.slice vp nv vc,.slice ip ni ic] 71);have hz:=bs_size x.put;rw[← hz]at hs;generalize bs x.put=s at *;have hs2:(s.size:Int)≤237:=by omega
  clear h g hz;go_enter Tryz.func118,Tryz.ntmps118;go_wp2_with (first
    | (go_at_call 86
       (with_reducible refine (HW.out _ K0).mono ?_)
       rintro e v1 ⟨kp1,kc1,vp1,nv1,vc1,ip1,ni1,ic1,rfl,O1,O2,O3,k1⟩
       have X1:=X0.kept k1
       have K1:=K0.trans k1
       rw[S0]at O1 O2 O3
       obtain⟨⟨g0,f0⟩,⟨g1,f1⟩,⟨g2,f2⟩,⟨g3,f3⟩,hfin⟩:=ready4 X1.out (.bool l) (.slice kp1 nk kc1) (.slice vp1 nv1 vc1) (.slice ip1 ni1 ic1)
       have V1:NV _ l kp1 nk kc1 vp1 nv1 vc1 ip1 ni1 ic1 x:=(NV.of HLF.out (O1.st4 (Nat.lt_succ_self _) (.bool l) (.slice kp1 nk kc1) (.slice vp1 nv1 vc1) (.slice ip1 ni1 ic1)) (O2.st4 (Nat.lt_succ_self _) _ _ _ _) (O3.st4 (Nat.lt_succ_self _) _ _ _ _))
       have K2:=K1.st4 (Nat.le_refl _) (.bool l) (.slice kp1 nk kc1) (.slice vp1 nv1 vc1) (.slice ip1 ni1 ic1)
       have c4:C4 _ w.heap.size 71 (.bool l) (.slice kp1 nk kc1) (.slice vp1 nv1 vc1) (.slice ip1 ni1 ic1):=⟨hfin⟩
       obtain⟨y0,y1,y2,y3⟩:=c4.cs
       clear HW X0 K0 S0 O1 O2 O3 k1 X1 K1 hfin)
    | (go_at_call 116
       (with_reducible refine (HP.out _ _ _ _ _ _ _ _ _ _ V1).mono ?_)
       rintro e v2 ⟨rfl,k2⟩
       have K3:=K2.trans k2
       have V2:=V1.kept k2
       obtain⟨a0,a1,a2,a3⟩:=(c4.kept k2).cs
       clear HP K2 c4 V1 g0 f0 g1 f1 g2 f2 g3 f3 y0 y1 y2 y3 k2))
  go_ret2;exact⟨_,_,_,_,_,_,_,_,_,rfl,C4.alloc v2 71 _ _ _ _,V2.kept ((Kept.refl v2).alloc _),K3.trans ((Kept.refl v2).alloc _)⟩
set_option maxHeartbeats 4000000 in
set_option maxRecDepth 100000 in
theorem part_true{w:World}{kp:Option Addr}{nk kc:Nat}{vp:Option Addr}{nv vc:Nat}{ip:Option Addr}{ni ic:Nat}{x:Nd}(h:NV w true kp nk kc vp nv vc ip ni ic x)(g:Good x)(hbig:237<x.put.length) :
    Calls Tryz.prog 118 #[.agg #[.bool true,.slice kp nk kc,.slice vp nv vc,.slice ip ni ic]] w fun e w'=>∃ (g m:Nat) (key:ByteArray) (kpA:Option Addr) (nkA kcA:Nat) (vpA:Option Addr) (nvA vcA:Nat) (ipA:Option Addr) (niA icA:Nat) (kpB:Option Addr) (nkB kcB:Nat) (vpB:Option Addr) (nvB vcB:Nat) (ipB:Option Addr) (niB icB:Nat),e=.returned (.tuple #[.slice (some ⟨g,0,none⟩) 2 2,.string key])∧x.ks[m]? = some key∧Mid x 0 m∧w'.heap[g]? = some (.cells #[.bool true,.slice kpA nkA kcA,.slice vpA nvA vcA,.slice ipA niA icA,.bool true,.slice kpB nkB kcB,.slice vpB nvB vcB,.slice ipB niB icB] 71)∧NZ w' true kpA nkA kcA vpA nvA vcA ipA niA icA (x.fst m)∧NZ w' true kpB nkB kcB vpB nvB vcB ipB niB icB (x.snd m)∧Kept w w':=by
  have hn3:3≤nk:=by have:=great_few g hbig;have:=h.nk;omega
  have hn2:¬ (nk:Int)<2:=by omega
  have hf:nk≤120:=by have:=g.few;have:=h.nk;omega
  have HW:Hid (∀ W,Kept w W→Calls Tryz.prog 86 #[.agg #[.bool true,.slice kp nk kc,.slice vp nv vc,.slice ip ni ic]] W fun e w'=>∃ kp' kc' vp' nv' vc' ip' ni' ic',e=.returned (.agg #[.bool true,.slice kp' nk kc',.slice vp' nv' vc',.slice ip' ni' ic'])∧Own w' W.heap.size 9 1 kp' nk kc' (kcl x.ks)∧Own w' W.heap.size 35 3 vp' nv' vc' (vcl x.vs)∧Own w' W.heap.size 3 1 ip' ni' ic' (icl x.is)∧Kept W w'):=fun W hW=>whole_walk (h.kept hW) g
  have HLF:Hid (x.leaf=true):=h.hl;have HKL:Hid (x.ks.length=nk):=h.nk;have G:Hid (Good x):=g;have HP:Hid (∀ (W:World) (kp:Option Addr) (nk kc:Nat) (vp:Option Addr) (nv vc:Nat) (ip:Option Addr) (ni ic:Nat),NV W true kp nk kc vp nv vc ip ni ic x→Calls Tryz.prog 116 #[.agg #[.bool true,.slice kp nk kc,.slice vp nv vc,.slice ip ni ic]] W fun e w'=>e=.returned (.string (bs x.put))∧Kept W w'):=fun W kp nk kc vp nv vc ip ni ic h=>put_walk h g
  have HMI:Hid (∀ (W:World) (kp:Option Addr) (kc:Nat) (vp:Option Addr) (nv vc:Nat) (ip:Option Addr) (ni ic:Nat),NV W true kp nk kc vp nv vc ip ni ic x→Calls Tryz.prog 150 #[.agg #[.bool true,.slice kp nk kc,.slice vp nv vc,.slice ip ni ic]] W fun e w'=>∃ m:Nat,e=.returned (.int .i64 (m:Nat))∧Mid x 0 m∧Kept W w'):=fun W kp kc vp nv vc ip ni ic h=>middle_walk h g (by omega)
  have K0:Kept w (w.alloc (.cells #[.bool true,.slice kp nk kc,.slice vp nv vc,.slice ip ni ic] 71)):=(Kept.refl w).alloc _;have X0:=C4.alloc w 71 (.bool true) (.slice kp nk kc) (.slice vp nv vc) (.slice ip ni ic);have S0:=size_alloc w (.cells #[.bool true,.slice kp nk kc,.slice vp nv vc,.slice ip ni ic] 71);have hz:=bs_size x.put;rw[← hz]at hbig;generalize bs x.put=s at *;have hs2:¬ (s.size:Int)≤237:=by omega
  clear h g hz;go_enter Tryz.func118,Tryz.ntmps118;go_wp2_with (first
    | (go_at_call 86
       (with_reducible refine (HW.out _ K0).mono ?_)
       rintro e v1 ⟨kp1,kc1,vp1,nv1,vc1,ip1,ni1,ic1,rfl,O1,O2,O3,k1⟩
       have X1:=X0.kept k1
       have K1:=K0.trans k1
       rw[S0]at O1 O2 O3
       obtain⟨⟨g0,f0⟩,⟨g1,f1⟩,⟨g2,f2⟩,⟨g3,f3⟩,hfin⟩:=ready4 X1.out (.bool true) (.slice kp1 nk kc1) (.slice vp1 nv1 vc1) (.slice ip1 ni1 ic1)
       have V1:NV _ true kp1 nk kc1 vp1 nv1 vc1 ip1 ni1 ic1 x:=(NV.of HLF.out (O1.st4 (Nat.lt_succ_self _) (.bool true) (.slice kp1 nk kc1) (.slice vp1 nv1 vc1) (.slice ip1 ni1 ic1)) (O2.st4 (Nat.lt_succ_self _) _ _ _ _) (O3.st4 (Nat.lt_succ_self _) _ _ _ _))
       have K2:=K1.st4 (Nat.le_refl _) (.bool true) (.slice kp1 nk kc1) (.slice vp1 nv1 vc1) (.slice ip1 ni1 ic1)
       have c4:C4 _ w.heap.size 71 (.bool true) (.slice kp1 nk kc1) (.slice vp1 nv1 vc1) (.slice ip1 ni1 ic1):=⟨hfin⟩
       obtain⟨y0,y1,y2,y3⟩:=c4.cs
       clear HW X0 K0 S0 O1 O2 O3 k1 X1 K1 hfin)
    | (go_at_call 116
       (with_reducible refine (HP.out _ _ _ _ _ _ _ _ _ _ V1).mono ?_)
       rintro e v2 ⟨rfl,k2⟩
       have K3:=K2.trans k2
       have V2:=V1.kept k2
       have d4:=c4.kept k2
       obtain⟨a0,a1,a2,a3⟩:=d4.cs
       clear HP K2 c4 V1 g0 f0 g1 f1 g2 f2 g3 f3 y0 y1 y2 y3 k2)
    | (go_at_call 150
       (with_reducible refine (HMI.out _ _ _ _ _ _ _ _ _ V2).mono ?_)
       rintro e v3 ⟨m,rfl,HM0,k3⟩
       have HM:Hid (Mid x 0 m):=HM0
       have hm:m<nk:=(by have:=HM0.lt;have:=HKL.out;omega)
       have hm':(m:Int)<(nk:Int):=(by omega)
       have K4:=K3.trans k3
       have V3:=V2.kept k3
       have e4:=d4.kept k3
       obtain⟨kb,ko,rfl,hkc⟩:=V3.k.some (by omega)
       obtain⟨key,hky⟩:∃ key,x.ks[m]? = some key:=⟨_,List.getElem?_eq_getElem (by have:=HKL.out;omega)⟩
       have HKY:Hid (x.ks[m]? = some key):=hky
       have ck:=hkc m _ (kcl_at hky)
       have HKC:Hid (∀ j u,(kcl x.ks)[j]? = some u→v3.cell? ⟨kb,ko+j,none⟩=some u):=hkc
       obtain⟨z0,z1,z2,z3⟩:=e4.cs
       clear HMI K3 V2 d4 a0 a1 a2 a3 k3 HM0 hkc hky))
  have hv2:=(G.out.lv HLF.out).1;obtain rfl:nv1=nk:=by rw[← V3.nv,hv2,HKL.out]
  obtain⟨vb,vo,rfl,hvc⟩:=V3.v.some (by omega);have HVC:Hid (∀ j u,(vcl x.vs)[j]? = some u→v3.cell? ⟨vb,vo+j,none⟩=some u):=hvc;have hkl:=V3.k.le;have hvl:=V3.v.le;have q1:(m:Int)≤(kc1:Int):=by omega
  have q2:(m:Int)≤(vc1:Int):=by omega
  have q3:(m:Int)≤(nv1:Int):=by omega
  have q4:(nv1:Int)≤(kc1:Int):=by omega
  have q5:(nv1:Int)≤(vc1:Int):=by omega
  have q6:(0:Int)≤(m:Int):=by omega
  have HCA:Hid (∀ W,Kept v3 W→Calls Tryz.prog 94 #[.agg #[.bool true,.slice (some ⟨kb,ko,none⟩) m kc1,.slice (some ⟨vb,vo,none⟩) m vc1,.slice none 0 0]] W fun e w'=>∃ kp' kc' vp' vc' ip' ic',e=.returned (.agg #[.bool true,.slice kp' m kc',.slice vp' m vc',.slice ip' 0 ic'])∧Own w' W.heap.size 9 1 kp' m kc' (kcl (x.ks.take m))∧Own w' W.heap.size 35 3 vp' m vc' (vcl (x.vs.take m))∧Own w' W.heap.size 3 1 ip' 0 ic' (icl [])∧Kept W w'):=fun W hW=>by
    have r1:=(hW.rw V3.k).take m (by omega);have r2:=(hW.rw V3.v).take m (by omega);rw[← kcl_take]at r1;rw[vcl_take]at r2;exact copy_walk r1 r2 ⟨rfl,Nat.le_refl _,Nat.zero_le _,.inl ⟨rfl,rfl⟩⟩ (kcl_one _) (vcl_one _) (icl_one _) (by omega) (by omega) (by omega)
  have HCB:Hid (∀ W,Kept v3 W→Calls Tryz.prog 94 #[.agg #[.bool true,.slice (some ⟨kb,ko+m,none⟩) (nv1-m) (kc1-m),.slice (some ⟨vb,vo+m*3,none⟩) (nv1-m) (vc1-m),.slice none 0 0]] W fun e w'=>∃ kp' kc' vp' vc' ip' ic',e=.returned (.agg #[.bool true,.slice kp' (nv1-m) kc',.slice vp' (nv1-m) vc',.slice ip' 0 ic'])∧Own w' W.heap.size 9 1 kp' (nv1-m) kc' (kcl (x.ks.drop m))∧Own w' W.heap.size 35 3 vp' (nv1-m) vc' (vcl (x.vs.drop m))∧Own w' W.heap.size 3 1 ip' 0 ic' (icl [])∧Kept W w'):=fun W hW=>by
    have r1:=row_drop (fun j u hj=>hW.cell (HKC.out j u hj)) V3.k.len V3.k.le V3.k.cap m (by omega);have r2:=row_drop (fun j u hj=>hW.cell (HVC.out j u hj)) V3.v.len V3.v.le V3.v.cap m (by omega);rw[← kcl_drop,Nat.mul_one]at r1;rw[vcl_drop]at r2;exact copy_walk r1 r2 ⟨rfl,Nat.le_refl _,Nat.zero_le _,.inl ⟨rfl,rfl⟩⟩ (kcl_one _) (vcl_one _) (icl_one _) (by omega) (by omega) (by omega)
  have KD:Kept v3 v3.drew:=(Kept.refl v3).drew;have HSA:Hid (∀ W,Kept v3 W→W.cell? ⟨w.heap.size,1,none⟩=some (.slice (some ⟨kb,ko,none⟩) nv1 kc1)∧W.cell? ⟨w.heap.size,2,none⟩=some (.slice (some ⟨vb,vo,none⟩) nv1 vc1)):=by
    intro W hW;exact⟨(e4.kept hW).cs.2.1,(e4.kept hW).cs.2.2.1⟩
  clear hvc z0 z1 z2 z3 ck e4 V3 hkl hvl hm hv2;go_region_held3 (fun W=>W.cell? ⟨w.heap.size,1,none⟩=some (.slice (some ⟨kb,ko,none⟩) nv1 kc1)∧W.cell? ⟨w.heap.size,2,none⟩=some (.slice (some ⟨vb,vo,none⟩) nv1 vc1)) (exact HSA.out _ (by first | assumption | exact Kept.alloc (by assumption) _)) (first
    | (go_at_call 94
       (with_reducible refine (HCA.out _ KD).mono ?_)
       rintro e v4 ⟨kpA,kcA,vpA,vcA,ipA,icA,rfl,A1,A2,A3,k4⟩
       have J1:=KD.trans k4
       clear HCA)
    | (go_at_call 94
       (with_reducible refine (HCB.out _ J1).mono ?_)
       rintro e v5 ⟨kpB,kcB,vpB,vcB,ipB,icB,rfl,B1,B2,B3,k5⟩
       have J2:=J1.trans k5
       clear J1))
  go_wp2;go_ret2;have e1:x.fst m=⟨true,x.ks.take m,x.vs.take m,[]⟩:=by unfold Nd.fst;rw[if_pos HLF.out]
  have e2:x.snd m=⟨true,x.ks.drop m,x.vs.drop m,[]⟩:=by unfold Nd.snd;rw[if_pos HLF.out]
  have kA:=k5.alloc (.cells #[.bool true,.slice kpA m kcA,.slice vpA m vcA,.slice ipA 0 icA,.bool true,.slice kpB (nv1-m) kcB,.slice vpB (nv1-m) vcB,.slice ipB 0 icB] 71);have kB:=(Kept.refl v5).alloc (.cells #[.bool true,.slice kpA m kcA,.slice vpA m vcA,.slice ipA 0 icA,.bool true,.slice kpB (nv1-m) kcB,.slice vpB (nv1-m) vcB,.slice ipB 0 icB] 71);exact⟨_,m,key,_,_,_,_,_,_,_,_,_,_,_,_,_,_,_,_,_,_,rfl,HKY.out,HM.out,heap_alloc_new v5 _,(by rw[e1];exact⟨(NV.of rfl (A1.kept kA) (A2.kept kA) (A3.kept kA)),A1.z,A2.z,A3.z⟩),(by rw[e2];exact⟨(NV.of rfl (B1.kept kB) (B2.kept kB) (B3.kept kB)),B1.z,B2.z,B3.z⟩),K4.trans (J2.trans kB)⟩
set_option maxHeartbeats 4000000 in
set_option maxRecDepth 100000 in
theorem part_false{w:World}{kp:Option Addr}{nk kc:Nat}{vp:Option Addr}{nv vc:Nat}{ip:Option Addr}{ni ic:Nat}{x:Nd}(h:NV w false kp nk kc vp nv vc ip ni ic x)(g:Good x)(hbig:237<x.put.length) :
    Calls Tryz.prog 118 #[.agg #[.bool false,.slice kp nk kc,.slice vp nv vc,.slice ip ni ic]] w fun e w'=>∃ (g m:Nat) (key:ByteArray) (kpA:Option Addr) (nkA kcA:Nat) (vpA:Option Addr) (nvA vcA:Nat) (ipA:Option Addr) (niA icA:Nat) (kpB:Option Addr) (nkB kcB:Nat) (vpB:Option Addr) (nvB vcB:Nat) (ipB:Option Addr) (niB icB:Nat),e=.returned (.tuple #[.slice (some ⟨g,0,none⟩) 2 2,.string key])∧x.ks[m]? = some key∧Mid x 0 m∧w'.heap[g]? = some (.cells #[.bool false,.slice kpA nkA kcA,.slice vpA nvA vcA,.slice ipA niA icA,.bool false,.slice kpB nkB kcB,.slice vpB nvB vcB,.slice ipB niB icB] 71)∧NZ w' false kpA nkA kcA vpA nvA vcA ipA niA icA (x.fst m)∧NZ w' false kpB nkB kcB vpB nvB vcB ipB niB icB (x.snd m)∧Kept w w':=by
  have hn3:3≤nk:=by have:=great_few g hbig;have:=h.nk;omega
  have hn2:¬ (nk:Int)<2:=by omega
  have hf:nk≤120:=by have:=g.few;have:=h.nk;omega
  have HW:Hid (∀ W,Kept w W→Calls Tryz.prog 86 #[.agg #[.bool false,.slice kp nk kc,.slice vp nv vc,.slice ip ni ic]] W fun e w'=>∃ kp' kc' vp' nv' vc' ip' ni' ic',e=.returned (.agg #[.bool false,.slice kp' nk kc',.slice vp' nv' vc',.slice ip' ni' ic'])∧Own w' W.heap.size 9 1 kp' nk kc' (kcl x.ks)∧Own w' W.heap.size 35 3 vp' nv' vc' (vcl x.vs)∧Own w' W.heap.size 3 1 ip' ni' ic' (icl x.is)∧Kept W w'):=fun W hW=>whole_walk (h.kept hW) g
  have HLF:Hid (x.leaf=false):=h.hl;have HKL:Hid (x.ks.length=nk):=h.nk;have G:Hid (Good x):=g;have HP:Hid (∀ (W:World) (kp:Option Addr) (nk kc:Nat) (vp:Option Addr) (nv vc:Nat) (ip:Option Addr) (ni ic:Nat),NV W false kp nk kc vp nv vc ip ni ic x→Calls Tryz.prog 116 #[.agg #[.bool false,.slice kp nk kc,.slice vp nv vc,.slice ip ni ic]] W fun e w'=>e=.returned (.string (bs x.put))∧Kept W w'):=fun W kp nk kc vp nv vc ip ni ic h=>put_walk h g
  have HMI:Hid (∀ (W:World) (kp:Option Addr) (kc:Nat) (vp:Option Addr) (nv vc:Nat) (ip:Option Addr) (ni ic:Nat),NV W false kp nk kc vp nv vc ip ni ic x→Calls Tryz.prog 150 #[.agg #[.bool false,.slice kp nk kc,.slice vp nv vc,.slice ip ni ic]] W fun e w'=>∃ m:Nat,e=.returned (.int .i64 (m:Nat))∧Mid x 0 m∧Kept W w'):=fun W kp kc vp nv vc ip ni ic h=>middle_walk h g (by omega)
  have K0:Kept w (w.alloc (.cells #[.bool false,.slice kp nk kc,.slice vp nv vc,.slice ip ni ic] 71)):=(Kept.refl w).alloc _;have X0:=C4.alloc w 71 (.bool false) (.slice kp nk kc) (.slice vp nv vc) (.slice ip ni ic);have S0:=size_alloc w (.cells #[.bool false,.slice kp nk kc,.slice vp nv vc,.slice ip ni ic] 71);have hz:=bs_size x.put;rw[← hz]at hbig;generalize bs x.put=s at *;have hs2:¬ (s.size:Int)≤237:=by omega
  clear h g hz;go_enter Tryz.func118,Tryz.ntmps118;go_wp2_with (first
    | (go_at_call 86
       (with_reducible refine (HW.out _ K0).mono ?_)
       rintro e v1 ⟨kp1,kc1,vp1,nv1,vc1,ip1,ni1,ic1,rfl,O1,O2,O3,k1⟩
       have X1:=X0.kept k1
       have K1:=K0.trans k1
       rw[S0]at O1 O2 O3
       obtain⟨⟨g0,f0⟩,⟨g1,f1⟩,⟨g2,f2⟩,⟨g3,f3⟩,hfin⟩:=ready4 X1.out (.bool false) (.slice kp1 nk kc1) (.slice vp1 nv1 vc1) (.slice ip1 ni1 ic1)
       have V1:NV _ false kp1 nk kc1 vp1 nv1 vc1 ip1 ni1 ic1 x:=(NV.of HLF.out (O1.st4 (Nat.lt_succ_self _) (.bool false) (.slice kp1 nk kc1) (.slice vp1 nv1 vc1) (.slice ip1 ni1 ic1)) (O2.st4 (Nat.lt_succ_self _) _ _ _ _) (O3.st4 (Nat.lt_succ_self _) _ _ _ _))
       have K2:=K1.st4 (Nat.le_refl _) (.bool false) (.slice kp1 nk kc1) (.slice vp1 nv1 vc1) (.slice ip1 ni1 ic1)
       have c4:C4 _ w.heap.size 71 (.bool false) (.slice kp1 nk kc1) (.slice vp1 nv1 vc1) (.slice ip1 ni1 ic1):=⟨hfin⟩
       obtain⟨y0,y1,y2,y3⟩:=c4.cs
       clear HW X0 K0 S0 O1 O2 O3 k1 X1 K1 hfin)
    | (go_at_call 116
       (with_reducible refine (HP.out _ _ _ _ _ _ _ _ _ _ V1).mono ?_)
       rintro e v2 ⟨rfl,k2⟩
       have K3:=K2.trans k2
       have V2:=V1.kept k2
       have d4:=c4.kept k2
       obtain⟨a0,a1,a2,a3⟩:=d4.cs
       clear HP K2 c4 V1 g0 f0 g1 f1 g2 f2 g3 f3 y0 y1 y2 y3 k2)
    | (go_at_call 150
       (with_reducible refine (HMI.out _ _ _ _ _ _ _ _ _ V2).mono ?_)
       rintro e v3 ⟨m,rfl,HM0,k3⟩
       have HM:Hid (Mid x 0 m):=HM0
       have hm:m<nk:=(by have:=HM0.lt;have:=HKL.out;omega)
       have hm':(m:Int)<(nk:Int):=(by omega)
       have K4:=K3.trans k3
       have V3:=V2.kept k3
       have e4:=d4.kept k3
       obtain⟨kb,ko,rfl,hkc⟩:=V3.k.some (by omega)
       obtain⟨key,hky⟩:∃ key,x.ks[m]? = some key:=⟨_,List.getElem?_eq_getElem (by have:=HKL.out;omega)⟩
       have HKY:Hid (x.ks[m]? = some key):=hky
       have ck:=hkc m _ (kcl_at hky)
       have HKC:Hid (∀ j u,(kcl x.ks)[j]? = some u→v3.cell? ⟨kb,ko+j,none⟩=some u):=hkc
       obtain⟨z0,z1,z2,z3⟩:=e4.cs
       clear HMI K3 V2 d4 a0 a1 a2 a3 k3 HM0 hkc hky))
  have hv2:=(G.out.li HLF.out).1;have hni:ni1=nk+1:=by rw[← V3.ni,hv2,HKL.out]
  obtain⟨ib,io,rfl,hvc⟩:=V3.i.some (by omega);have HVC:Hid (∀ j u,(icl x.is)[j]? = some u→v3.cell? ⟨ib,io+j,none⟩=some u):=hvc;have hkl:=V3.k.le;have hvl:=V3.i.le;have q1:(m:Int)≤(kc1:Int):=by omega
  have q1b:(m:Int)+1≤(kc1:Int):=by omega
  have q2:(m:Int)+1≤(ic1:Int):=by omega
  have q3:(m:Int)+1≤(nk:Int):=by omega
  have q4:(nk:Int)≤(kc1:Int):=by omega
  have q5:(ni1:Int)≤(ic1:Int):=by omega
  have q7:(m:Int)+1≤(ni1:Int):=by omega
  have q11:(m:Int)<(nk:Int):=by omega
  have q8:(0:Int)≤(m:Int)+1:=by omega
  have q9:IntKind.i64.wrap ((m:Int)+1)=(m:Int)+1:=by rw[IntKind.wrap_i64];omega
  have hi1:¬ ic1=m+1:=by omega
  have q10:((m:Int)+1).toNat=m+1:=by omega
  have q6:(0:Int)≤(m:Int):=by omega
  have HCA:Hid (∀ W,Kept v3 W→Calls Tryz.prog 94 #[.agg #[.bool false,.slice (some ⟨kb,ko,none⟩) m kc1,.slice none 0 0,.slice (some ⟨ib,io,none⟩) (m+1) ic1]] W fun e w'=>∃ kp' kc' vp' vc' ip' ic',e=.returned (.agg #[.bool false,.slice kp' m kc',.slice vp' 0 vc',.slice ip' (m+1) ic'])∧Own w' W.heap.size 9 1 kp' m kc' (kcl (x.ks.take m))∧Own w' W.heap.size 35 3 vp' 0 vc' (vcl [])∧Own w' W.heap.size 3 1 ip' (m+1) ic' (icl (x.is.take (m+1)))∧Kept W w'):=fun W hW=>by
    have r1:=(hW.rw V3.k).take m (by omega);have r2:=(hW.rw V3.i).take (m+1) (by omega);rw[← kcl_take]at r1;rw[← icl_take]at r2;exact copy_walk r1 ⟨rfl,Nat.le_refl _,Nat.zero_le _,.inl ⟨rfl,rfl⟩⟩ r2 (kcl_one _) (vcl_one _) (icl_one _) (by omega) (by omega) (by omega)
  by_cases hk1:kc1=m+1
  · subst hk1
    have q12:(m:Int)≤(m:Int)+1:=by omega
    have HCB:Hid (∀ W,Kept v3 W→Calls Tryz.prog 94 #[.agg #[.bool false,.slice (some ⟨kb,ko,none⟩) (nk-(m+1)) 0,.slice none 0 0,.slice (some ⟨ib,io+(m+1),none⟩) (ni1-(m+1)) (ic1-(m+1))]] W fun e w'=>∃ kp' kc' vp' vc' ip' ic',e=.returned (.agg #[.bool false,.slice kp' (nk-(m+1)) kc',.slice vp' 0 vc',.slice ip' (ni1-(m+1)) ic'])∧Own w' W.heap.size 9 1 kp' (nk-(m+1)) kc' (kcl (x.ks.drop (m+1)))∧Own w' W.heap.size 35 3 vp' 0 vc' (vcl [])∧Own w' W.heap.size 3 1 ip' (ni1-(m+1)) ic' (icl (x.is.drop (m+1)))∧Kept W w'):=fun W hW=>by
      have r1:Rw W 1 (some ⟨kb,ko,none⟩) (nk-(m+1)) 0 (kcl (x.ks.drop (m+1))):=⟨by rw[kcl_length,List.length_drop,HKL.out,Nat.mul_one],by omega,Nat.zero_le _,.inr ⟨kb,ko,rfl,fun j u hj=>by rw[List.drop_eq_nil_of_le (by rw[HKL.out];omega)]at hj;simp[kcl]at hj⟩⟩;have r2:=row_drop (fun j u hj=>hW.cell (HVC.out j u hj)) V3.i.len V3.i.le V3.i.cap (m+1) (by omega);rw[← icl_drop,Nat.mul_one]at r2;exact copy_walk r1 ⟨rfl,Nat.le_refl _,Nat.zero_le _,.inl ⟨rfl,rfl⟩⟩ r2 (kcl_one _) (vcl_one _) (icl_one _) (by omega) (by omega) (by omega)
    have KD:Kept v3 v3.drew:=(Kept.refl v3).drew;have HSA:Hid (∀ W,Kept v3 W→W.cell? ⟨w.heap.size,1,none⟩=some (.slice (some ⟨kb,ko,none⟩) nk (m+1))∧W.cell? ⟨w.heap.size,3,none⟩=some (.slice (some ⟨ib,io,none⟩) ni1 ic1)):=by
      intro W hW;exact⟨(e4.kept hW).cs.2.1,(e4.kept hW).cs.2.2.2⟩
    clear hvc z0 z1 z2 z3 ck e4 V3 hkl hvl hm hni hv2;refine wp_region_held_drew (S:=(fun W=>W.cell? ⟨w.heap.size,1,none⟩=some (.slice (some ⟨kb,ko,none⟩) nk (m+1))∧W.cell? ⟨w.heap.size,3,none⟩=some (.slice (some ⟨ib,io,none⟩) ni1 ic1))) (by kernel_rfl) ?_ (fun hHeld=>?_)
    · exact HSA.out _ KD
    refine wpAnyH_take (i:=0) (oi:=opnpd19) (v:=?_) rfl (by kernel_rfl) (by kernel_rfl) (by kernel_rfl) (fun _ _ _ h=>h) (Or.inl ⟨by rfl,?_⟩) (by assumption) ?_;rotate_left
    · intro w hSw
      (try dsimp only at hSw);go_simp;all_goals with_reducible rfl
    try simp only[Act.put,saz1,saz2,saz3]
    refine wpAnyH_take (i:=1) (oi:=opnpd17) (v:=?_) rfl (by kernel_rfl) (by kernel_rfl) (by kernel_rfl) (fun _ _ _ h=>h) (Or.inl ⟨by rfl,?_⟩) (by assumption) ?_;rotate_left
    · intro w hSw
      (try dsimp only at hSw);go_simp;all_goals with_reducible rfl
    try simp only[Act.put,saz1,saz2,saz3]
    refine wpAnyH_take (i:=2) (oi:=opnpd23) (v:=?_) rfl (by kernel_rfl) (by kernel_rfl) (by kernel_rfl) (fun _ _ _ h=>h) (Or.inl ⟨by rfl,?_⟩) (by assumption) ?_;rotate_left
    · intro w hSw
      (try dsimp only at hSw);go_simp;all_goals with_reducible rfl
    try simp only[Act.put,saz1,saz2,saz3]
    refine wpAnyH_take (i:=3) (oi:=opnpd6) (v:=?_) rfl (by kernel_rfl) (by kernel_rfl) (by kernel_rfl) (fun _ _ _ h=>h) (Or.inl ⟨by rfl,?_⟩) (by assumption) ?_;rotate_left
    · intro w hSw
      (try dsimp only at hSw);go_simp;all_goals with_reducible rfl
    try simp only[Act.put,saz1,saz2,saz3]
    refine wpAnyH_take (i:=4) (oi:=opnpd20) (v:=?_) rfl (by kernel_rfl) (by kernel_rfl) (by kernel_rfl) (fun _ _ _ h=>h) (Or.inl ⟨by rfl,?_⟩) (by assumption) ?_;rotate_left
    · intro w hSw
      (try dsimp only at hSw);go_simp;all_goals with_reducible rfl
    try simp only[Act.put,saz1,saz2,saz3]
    refine wpAnyH_take (i:=5) (oi:=opnpd18) (v:=?_) rfl (by kernel_rfl) (by kernel_rfl) (by kernel_rfl) (fun _ _ _ h=>h) (Or.inl ⟨by rfl,?_⟩) (by assumption) ?_;rotate_left
    · intro w hSw
      (try dsimp only at hSw);go_simp;all_goals with_reducible rfl
    try simp only[Act.put,saz1,saz2,saz3]
    refine wpAnyH_take (i:=6) (oi:=opnpd24) (v:=?_) rfl (by kernel_rfl) (by kernel_rfl) (by kernel_rfl) (fun _ _ _ h=>h) (Or.inl ⟨by rfl,?_⟩) (by assumption) ?_;rotate_left
    · intro w hSw
      (try dsimp only at hSw);go_simp;all_goals with_reducible rfl
    try simp only[Act.put,saz1,saz2,saz3]
    refine wpAnyH_take (i:=7) (oi:=opnpd13) (v:=?_) rfl (by kernel_rfl) (by kernel_rfl) (by kernel_rfl) (fun _ _ _ h=>h) (Or.inl ⟨by rfl,?_⟩) (by assumption) ?_;rotate_left
    · intro w hSw
      (try dsimp only at hSw);go_simp;all_goals with_reducible rfl
    try simp only[Act.put,saz1,saz2,saz3]
    refine wpAnyH_take (i:=8) (oi:=opnpd7) (v:=?_) rfl (by kernel_rfl) (by kernel_rfl) (by kernel_rfl) (fun _ _ _ h=>h) (Or.inl ⟨by rfl,?_⟩) (by assumption) ?_;rotate_left
    · intro w hSw
      (try dsimp only at hSw);go_simp;all_goals with_reducible rfl
    try simp only[Act.put,saz1,saz2,saz3]
    refine wpAnyH_take (i:=9) (oi:=opnpd10) (v:=?_) rfl (by kernel_rfl) (by kernel_rfl) (by kernel_rfl) (fun _ _ _ h=>h) (Or.inl ⟨by rfl,?_⟩) (by assumption) ?_;rotate_left
    · intro w hSw
      (try dsimp only at hSw);go_simp;all_goals with_reducible rfl
    try simp only[Act.put,saz1,saz2,saz3]
    refine wpAnyH_take (i:=11) (oi:=opnpd21) (v:=?_) rfl (by kernel_rfl) (by kernel_rfl) (by kernel_rfl) (fun _ _ _ h=>h) (Or.inl ⟨by rfl,?_⟩) (by assumption) ?_;rotate_left
    · intro w hSw
      (try dsimp only at hSw);go_simp;all_goals with_reducible rfl
    try simp only[Act.put,saz1,saz2,saz3]
    refine wpAnyH_take (i:=12) (oi:=opnpd15) (v:=?_) rfl (by kernel_rfl) (by kernel_rfl) (by kernel_rfl) (fun _ _ _ h=>h) (Or.inl ⟨by rfl,?_⟩) (by assumption) ?_;rotate_left
    · intro w hSw
      (try dsimp only at hSw);go_simp;all_goals with_reducible rfl
    try simp only[Act.put,saz1,saz2,saz3]
    refine wpAnyH_take (i:=13) (oi:=opnpd25) (v:=?_) rfl (by kernel_rfl) (by kernel_rfl) (by kernel_rfl) (fun _ _ _ h=>h) (Or.inl ⟨by rfl,?_⟩) (by assumption) ?_;rotate_left
    · intro w hSw
      (try dsimp only at hSw);go_simp;all_goals with_reducible rfl
    try simp only[Act.put,saz1,saz2,saz3]
    refine wpAnyH_take (i:=14) (oi:=opnpd11) (v:=?_) rfl (by kernel_rfl) (by kernel_rfl) (by kernel_rfl) (fun _ _ _ h=>h) (Or.inl ⟨by rfl,?_⟩) (by assumption) ?_;rotate_left
    · intro w hSw
      (try dsimp only at hSw);go_simp;all_goals with_reducible rfl
    try simp only[Act.put,saz1,saz2,saz3]
    refine wpAnyH_take (i:=15) (oi:=opnpd4) (v:=?_) rfl (by kernel_rfl) (by kernel_rfl) (by kernel_rfl) (fun _ _ _ h=>h) (Or.inl ⟨by rfl,?_⟩) (by assumption) ?_;rotate_left
    · intro w hSw
      (try dsimp only at hSw);go_simp;all_goals with_reducible rfl
    try simp only[Act.put,saz1,saz2,saz3]
    refine wpAnyH_take (i:=16) (oi:=opnpd22) (v:=?_) rfl (by kernel_rfl) (by kernel_rfl) (by kernel_rfl) (fun _ _ _ h=>h) (Or.inl ⟨by rfl,?_⟩) (by assumption) ?_;rotate_left
    · intro w hSw
      (try dsimp only at hSw);go_simp;all_goals with_reducible rfl
    try simp only[Act.put,saz1,saz2,saz3]
    refine wpAnyH_take (i:=17) (oi:=opnpd16) (v:=?_) rfl (by kernel_rfl) (by kernel_rfl) (by kernel_rfl) (fun _ _ _ h=>h) (Or.inl ⟨by rfl,?_⟩) (by assumption) ?_;rotate_left
    · intro w hSw
      (try dsimp only at hSw);go_simp;all_goals with_reducible rfl
    try simp only[Act.put,saz1,saz2,saz3]
    refine wpAnyH_take (i:=18) (oi:=opnpd26) (v:=?_) rfl (by kernel_rfl) (by kernel_rfl) (by kernel_rfl) (fun _ _ _ h=>h) (Or.inl ⟨by rfl,?_⟩) (by assumption) ?_;rotate_left
    · intro w hSw
      (try dsimp only at hSw);go_simp;all_goals with_reducible rfl
    try simp only[Act.put,saz1,saz2,saz3]
    refine wpAnyH_take (i:=19) (oi:=opnpd12) (v:=?_) rfl (by kernel_rfl) (by kernel_rfl) (by kernel_rfl) (fun _ _ _ h=>h) (Or.inl ⟨by rfl,?_⟩) (by assumption) ?_;rotate_left
    · intro w hSw
      (try dsimp only at hSw);go_simp;all_goals with_reducible rfl
    try simp only[Act.put,saz1,saz2,saz3]
    refine wpAnyH_take (i:=20) (oi:=opnpd5) (v:=?_) rfl (by kernel_rfl) (by kernel_rfl) (by kernel_rfl) (fun _ _ _ h=>h) (Or.inl ⟨by rfl,?_⟩) (by assumption) ?_;rotate_left
    · intro w hSw
      (try dsimp only at hSw);go_simp;all_goals with_reducible rfl
    try simp only[Act.put,saz1,saz2,saz3]
    refine wpAnyH_take (i:=21) (oi:=opnpd9) (v:=?_) rfl (by kernel_rfl) (by kernel_rfl) (by kernel_rfl) (fun _ _ _ h=>h) (Or.inl ⟨by rfl,?_⟩) (by assumption) ?_;rotate_left
    · intro w hSw
      (try dsimp only at hSw);go_simp;all_goals with_reducible rfl
    try simp only[Act.put,saz1,saz2,saz3]
    refine wpAnyH_take (i:=24) (oi:=opnpd14) (v:=?_) rfl (by kernel_rfl) (by kernel_rfl) (by kernel_rfl) (fun _ _ _ h=>h) (Or.inl ⟨by rfl,?_⟩) (by assumption) ?_;rotate_left
    · intro w hSw
      (try dsimp only at hSw);go_simp;all_goals with_reducible rfl
    try simp only[Act.put,saz1,saz2,saz3]
    refine wpAnyH_ready (rs:=[10]) (by kernel_rfl) (by simp) ?_;refine AllReadyH.cons (o:=opnpd8) rfl (fun KK hKK=>?_) ?_
    ·
      go_simp
      go_at_call 94
      (with_reducible refine (HCA.out _ KD).mono ?_)
      rintro e v4 ⟨kpA,kcA,vpA,vcA,ipA,icA,rfl,A1,A2,A3,k4⟩
      have J1:=KD.trans k4
      clear HCA
      go_wp2_with fail
      refine hKK.out _ _ ?_ (fun hHeld=>?_)
      · (try dsimp only)
        exact HSA.out _ (by first | assumption | exact Kept.alloc (by assumption) _)
      clear hKK KK
      try simp only[Act.put,saz1,saz2,saz3]
      refine wpAnyH_ready (rs:=[22]) (by kernel_rfl) (by simp) ?_
      refine AllReadyH.cons (o:=opnpd2) rfl (fun KK hKK=>?_) ?_
      ·
        go_simp
        go_at_call 94
        (with_reducible refine (HCB.out _ J1).mono ?_)
        rintro e v5 ⟨kpB,kcB,vpB,vcB,ipB,icB,rfl,B1,B2,B3,k5⟩
        have J2:=J1.trans k5
        clear J1
        go_wp2_with fail
        refine hKK.out _ _ ?_ (fun hHeld=>?_)
        · (try dsimp only)
          exact HSA.out _ (by first | assumption | exact Kept.alloc (by assumption) _)
        clear hKK KK
        try simp only[Act.put,saz1,saz2,saz3]
        refine wpAnyH_ready (rs:=[23]) (by kernel_rfl) (by simp) ?_
        refine AllReadyH.cons (o:=opnpd3) rfl (fun KK hKK=>?_) ?_
        ·
          go_simp
          refine hKK.out _ _ ?_ (fun hHeld=>?_)
          · (try dsimp only)
            exact HSA.out _ (by first | assumption | exact Kept.alloc (by assumption) _)
          clear hKK KK
          try simp only[Act.put,saz1,saz2,saz3]
          refine wpAnyH_take (i:=25) (oi:=opnpd1) (v:=?_) rfl (by kernel_rfl) (by kernel_rfl) (by kernel_rfl) (fun _ _ _ h=>h) (Or.inl ⟨by rfl,?_⟩) (by assumption) ?_
          rotate_left
          · intro w hSw
            (try dsimp only at hSw);go_simp;all_goals with_reducible rfl
          try simp only[Act.put,saz1,saz2,saz3]
          refine wpAnyH_take (i:=26) (oi:=opnpd0) (v:=?_) rfl (by kernel_rfl) (by kernel_rfl) (by kernel_rfl) (fun _ _ _ h=>h) (Or.inl ⟨by rfl,?_⟩) (by assumption) ?_
          rotate_left
          · intro w hSw
            (try dsimp only at hSw);go_simp;all_goals with_reducible rfl
          try simp only[Act.put,saz1,saz2,saz3]
          refine wpAnyH_done (by kernel_rfl) ?_ _
          go_wp2
          go_ret2
          have e1:x.fst m=⟨false,x.ks.take m,[],x.is.take (m+1)⟩:=by unfold Nd.fst;rw[if_neg (by rw[HLF.out];decide)]
          have e2:x.snd m=⟨false,x.ks.drop (m+1),[],x.is.drop (m+1)⟩:=by unfold Nd.snd;rw[if_neg (by rw[HLF.out];decide)]
          have kA:=k5.alloc (.cells #[.bool false,.slice kpA m kcA,.slice vpA 0 vcA,.slice ipA (m+1) icA,.bool false,.slice kpB (nk-(m+1)) kcB,.slice vpB 0 vcB,.slice ipB (ni1-(m+1)) icB] 71)
          have kB:=(Kept.refl v5).alloc (.cells #[.bool false,.slice kpA m kcA,.slice vpA 0 vcA,.slice ipA (m+1) icA,.bool false,.slice kpB (nk-(m+1)) kcB,.slice vpB 0 vcB,.slice ipB (ni1-(m+1)) icB] 71)
          exact⟨_,m,key,_,_,_,_,_,_,_,_,_,_,_,_,_,_,_,_,_,_,rfl,HKY.out,HM.out,heap_alloc_new v5 _,(by rw[e1];exact⟨(NV.of rfl (A1.kept kA) (A2.kept kA) (A3.kept kA)),A1.z,A2.z,A3.z⟩),(by rw[e2];exact⟨(NV.of rfl (B1.kept kB) (B2.kept kB) (B3.kept kB)),B1.z,B2.z,B3.z⟩),K4.trans (J2.trans kB)⟩
        exact AllReadyH.nil
      exact AllReadyH.nil
    exact AllReadyH.nil
  · skip
    have HCB:Hid (∀ W,Kept v3 W→Calls Tryz.prog 94 #[.agg #[.bool false,.slice (some ⟨kb,ko+(m+1),none⟩) (nk-(m+1)) (kc1-(m+1)),.slice none 0 0,.slice (some ⟨ib,io+(m+1),none⟩) (ni1-(m+1)) (ic1-(m+1))]] W fun e w'=>∃ kp' kc' vp' vc' ip' ic',e=.returned (.agg #[.bool false,.slice kp' (nk-(m+1)) kc',.slice vp' 0 vc',.slice ip' (ni1-(m+1)) ic'])∧Own w' W.heap.size 9 1 kp' (nk-(m+1)) kc' (kcl (x.ks.drop (m+1)))∧Own w' W.heap.size 35 3 vp' 0 vc' (vcl [])∧Own w' W.heap.size 3 1 ip' (ni1-(m+1)) ic' (icl (x.is.drop (m+1)))∧Kept W w'):=fun W hW=>by
      have r1:=row_drop (fun j u hj=>hW.cell (HKC.out j u hj)) V3.k.len V3.k.le V3.k.cap (m+1) (by omega);have r2:=row_drop (fun j u hj=>hW.cell (HVC.out j u hj)) V3.i.len V3.i.le V3.i.cap (m+1) (by omega);rw[← kcl_drop,Nat.mul_one]at r1;rw[← icl_drop,Nat.mul_one]at r2;exact copy_walk r1 ⟨rfl,Nat.le_refl _,Nat.zero_le _,.inl ⟨rfl,rfl⟩⟩ r2 (kcl_one _) (vcl_one _) (icl_one _) (by omega) (by omega) (by omega)
    have KD:Kept v3 v3.drew:=(Kept.refl v3).drew;have HSA:Hid (∀ W,Kept v3 W→W.cell? ⟨w.heap.size,1,none⟩=some (.slice (some ⟨kb,ko,none⟩) nk kc1)∧W.cell? ⟨w.heap.size,3,none⟩=some (.slice (some ⟨ib,io,none⟩) ni1 ic1)):=by
      intro W hW;exact⟨(e4.kept hW).cs.2.1,(e4.kept hW).cs.2.2.2⟩
    clear hvc z0 z1 z2 z3 ck e4 V3 hkl hvl hm hni hv2;refine wp_region_held_drew (S:=(fun W=>W.cell? ⟨w.heap.size,1,none⟩=some (.slice (some ⟨kb,ko,none⟩) nk kc1)∧W.cell? ⟨w.heap.size,3,none⟩=some (.slice (some ⟨ib,io,none⟩) ni1 ic1))) (by kernel_rfl) ?_ (fun hHeld=>?_)
    · exact HSA.out _ KD
    refine wpAnyH_take (i:=0) (oi:=opnpd19) (v:=?_) rfl (by kernel_rfl) (by kernel_rfl) (by kernel_rfl) (fun _ _ _ h=>h) (Or.inl ⟨by rfl,?_⟩) (by assumption) ?_;rotate_left
    · intro w hSw
      (try dsimp only at hSw);go_simp;all_goals with_reducible rfl
    try simp only[Act.put,saz1,saz2,saz3]
    refine wpAnyH_take (i:=1) (oi:=opnpd17) (v:=?_) rfl (by kernel_rfl) (by kernel_rfl) (by kernel_rfl) (fun _ _ _ h=>h) (Or.inl ⟨by rfl,?_⟩) (by assumption) ?_;rotate_left
    · intro w hSw
      (try dsimp only at hSw);go_simp;all_goals with_reducible rfl
    try simp only[Act.put,saz1,saz2,saz3]
    refine wpAnyH_take (i:=2) (oi:=opnpd23) (v:=?_) rfl (by kernel_rfl) (by kernel_rfl) (by kernel_rfl) (fun _ _ _ h=>h) (Or.inl ⟨by rfl,?_⟩) (by assumption) ?_;rotate_left
    · intro w hSw
      (try dsimp only at hSw);go_simp;all_goals with_reducible rfl
    try simp only[Act.put,saz1,saz2,saz3]
    refine wpAnyH_take (i:=3) (oi:=opnpd6) (v:=?_) rfl (by kernel_rfl) (by kernel_rfl) (by kernel_rfl) (fun _ _ _ h=>h) (Or.inl ⟨by rfl,?_⟩) (by assumption) ?_;rotate_left
    · intro w hSw
      (try dsimp only at hSw);go_simp;all_goals with_reducible rfl
    try simp only[Act.put,saz1,saz2,saz3]
    refine wpAnyH_take (i:=4) (oi:=opnpd20) (v:=?_) rfl (by kernel_rfl) (by kernel_rfl) (by kernel_rfl) (fun _ _ _ h=>h) (Or.inl ⟨by rfl,?_⟩) (by assumption) ?_;rotate_left
    · intro w hSw
      (try dsimp only at hSw);go_simp;all_goals with_reducible rfl
    try simp only[Act.put,saz1,saz2,saz3]
    refine wpAnyH_take (i:=5) (oi:=opnpd18) (v:=?_) rfl (by kernel_rfl) (by kernel_rfl) (by kernel_rfl) (fun _ _ _ h=>h) (Or.inl ⟨by rfl,?_⟩) (by assumption) ?_;rotate_left
    · intro w hSw
      (try dsimp only at hSw);go_simp;all_goals with_reducible rfl
    try simp only[Act.put,saz1,saz2,saz3]
    refine wpAnyH_take (i:=6) (oi:=opnpd24) (v:=?_) rfl (by kernel_rfl) (by kernel_rfl) (by kernel_rfl) (fun _ _ _ h=>h) (Or.inl ⟨by rfl,?_⟩) (by assumption) ?_;rotate_left
    · intro w hSw
      (try dsimp only at hSw);go_simp;all_goals with_reducible rfl
    try simp only[Act.put,saz1,saz2,saz3]
    refine wpAnyH_take (i:=7) (oi:=opnpd13) (v:=?_) rfl (by kernel_rfl) (by kernel_rfl) (by kernel_rfl) (fun _ _ _ h=>h) (Or.inl ⟨by rfl,?_⟩) (by assumption) ?_;rotate_left
    · intro w hSw
      (try dsimp only at hSw);go_simp;all_goals with_reducible rfl
    try simp only[Act.put,saz1,saz2,saz3]
    refine wpAnyH_take (i:=8) (oi:=opnpd7) (v:=?_) rfl (by kernel_rfl) (by kernel_rfl) (by kernel_rfl) (fun _ _ _ h=>h) (Or.inl ⟨by rfl,?_⟩) (by assumption) ?_;rotate_left
    · intro w hSw
      (try dsimp only at hSw);go_simp;all_goals with_reducible rfl
    try simp only[Act.put,saz1,saz2,saz3]
    refine wpAnyH_take (i:=9) (oi:=opnpd10) (v:=?_) rfl (by kernel_rfl) (by kernel_rfl) (by kernel_rfl) (fun _ _ _ h=>h) (Or.inl ⟨by rfl,?_⟩) (by assumption) ?_;rotate_left
    · intro w hSw
      (try dsimp only at hSw);go_simp;all_goals with_reducible rfl
    try simp only[Act.put,saz1,saz2,saz3]
    refine wpAnyH_take (i:=11) (oi:=opnpd21) (v:=?_) rfl (by kernel_rfl) (by kernel_rfl) (by kernel_rfl) (fun _ _ _ h=>h) (Or.inl ⟨by rfl,?_⟩) (by assumption) ?_;rotate_left
    · intro w hSw
      (try dsimp only at hSw);go_simp;all_goals with_reducible rfl
    try simp only[Act.put,saz1,saz2,saz3]
    refine wpAnyH_take (i:=12) (oi:=opnpd15) (v:=?_) rfl (by kernel_rfl) (by kernel_rfl) (by kernel_rfl) (fun _ _ _ h=>h) (Or.inl ⟨by rfl,?_⟩) (by assumption) ?_;rotate_left
    · intro w hSw
      (try dsimp only at hSw);go_simp;all_goals with_reducible rfl
    try simp only[Act.put,saz1,saz2,saz3]
    refine wpAnyH_take (i:=13) (oi:=opnpd25) (v:=?_) rfl (by kernel_rfl) (by kernel_rfl) (by kernel_rfl) (fun _ _ _ h=>h) (Or.inl ⟨by rfl,?_⟩) (by assumption) ?_;rotate_left
    · intro w hSw
      (try dsimp only at hSw);go_simp;all_goals with_reducible rfl
    try simp only[Act.put,saz1,saz2,saz3]
    refine wpAnyH_take (i:=14) (oi:=opnpd11) (v:=?_) rfl (by kernel_rfl) (by kernel_rfl) (by kernel_rfl) (fun _ _ _ h=>h) (Or.inl ⟨by rfl,?_⟩) (by assumption) ?_;rotate_left
    · intro w hSw
      (try dsimp only at hSw);go_simp;all_goals with_reducible rfl
    try simp only[Act.put,saz1,saz2,saz3]
    refine wpAnyH_take (i:=15) (oi:=opnpd4) (v:=?_) rfl (by kernel_rfl) (by kernel_rfl) (by kernel_rfl) (fun _ _ _ h=>h) (Or.inl ⟨by rfl,?_⟩) (by assumption) ?_;rotate_left
    · intro w hSw
      (try dsimp only at hSw);go_simp;all_goals with_reducible rfl
    try simp only[Act.put,saz1,saz2,saz3]
    refine wpAnyH_take (i:=16) (oi:=opnpd22) (v:=?_) rfl (by kernel_rfl) (by kernel_rfl) (by kernel_rfl) (fun _ _ _ h=>h) (Or.inl ⟨by rfl,?_⟩) (by assumption) ?_;rotate_left
    · intro w hSw
      (try dsimp only at hSw);go_simp;all_goals with_reducible rfl
    try simp only[Act.put,saz1,saz2,saz3]
    refine wpAnyH_take (i:=17) (oi:=opnpd16) (v:=?_) rfl (by kernel_rfl) (by kernel_rfl) (by kernel_rfl) (fun _ _ _ h=>h) (Or.inl ⟨by rfl,?_⟩) (by assumption) ?_;rotate_left
    · intro w hSw
      (try dsimp only at hSw);go_simp;all_goals with_reducible rfl
    try simp only[Act.put,saz1,saz2,saz3]
    refine wpAnyH_take (i:=18) (oi:=opnpd26) (v:=?_) rfl (by kernel_rfl) (by kernel_rfl) (by kernel_rfl) (fun _ _ _ h=>h) (Or.inl ⟨by rfl,?_⟩) (by assumption) ?_;rotate_left
    · intro w hSw
      (try dsimp only at hSw);go_simp;all_goals with_reducible rfl
    try simp only[Act.put,saz1,saz2,saz3]
    refine wpAnyH_take (i:=19) (oi:=opnpd12) (v:=?_) rfl (by kernel_rfl) (by kernel_rfl) (by kernel_rfl) (fun _ _ _ h=>h) (Or.inl ⟨by rfl,?_⟩) (by assumption) ?_;rotate_left
    · intro w hSw
      (try dsimp only at hSw);go_simp;all_goals with_reducible rfl
    try simp only[Act.put,saz1,saz2,saz3]
    refine wpAnyH_take (i:=20) (oi:=opnpd5) (v:=?_) rfl (by kernel_rfl) (by kernel_rfl) (by kernel_rfl) (fun _ _ _ h=>h) (Or.inl ⟨by rfl,?_⟩) (by assumption) ?_;rotate_left
    · intro w hSw
      (try dsimp only at hSw);go_simp;all_goals with_reducible rfl
    try simp only[Act.put,saz1,saz2,saz3]
    refine wpAnyH_take (i:=21) (oi:=opnpd9) (v:=?_) rfl (by kernel_rfl) (by kernel_rfl) (by kernel_rfl) (fun _ _ _ h=>h) (Or.inl ⟨by rfl,?_⟩) (by assumption) ?_;rotate_left
    · intro w hSw
      (try dsimp only at hSw);go_simp;all_goals with_reducible rfl
    try simp only[Act.put,saz1,saz2,saz3]
    refine wpAnyH_take (i:=24) (oi:=opnpd14) (v:=?_) rfl (by kernel_rfl) (by kernel_rfl) (by kernel_rfl) (fun _ _ _ h=>h) (Or.inl ⟨by rfl,?_⟩) (by assumption) ?_;rotate_left
    · intro w hSw
      (try dsimp only at hSw);go_simp;all_goals with_reducible rfl
    try simp only[Act.put,saz1,saz2,saz3]
    refine wpAnyH_ready (rs:=[10]) (by kernel_rfl) (by simp) ?_;refine AllReadyH.cons (o:=opnpd8) rfl (fun KK hKK=>?_) ?_
    ·
      go_simp
      go_at_call 94
      (with_reducible refine (HCA.out _ KD).mono ?_)
      rintro e v4 ⟨kpA,kcA,vpA,vcA,ipA,icA,rfl,A1,A2,A3,k4⟩
      have J1:=KD.trans k4
      clear HCA
      go_wp2_with fail
      refine hKK.out _ _ ?_ (fun hHeld=>?_)
      · (try dsimp only)
        exact HSA.out _ (by first | assumption | exact Kept.alloc (by assumption) _)
      clear hKK KK
      try simp only[Act.put,saz1,saz2,saz3]
      refine wpAnyH_ready (rs:=[22]) (by kernel_rfl) (by simp) ?_
      refine AllReadyH.cons (o:=opnpd2) rfl (fun KK hKK=>?_) ?_
      ·
        go_simp
        go_at_call 94
        (with_reducible refine (HCB.out _ J1).mono ?_)
        rintro e v5 ⟨kpB,kcB,vpB,vcB,ipB,icB,rfl,B1,B2,B3,k5⟩
        have J2:=J1.trans k5
        clear J1
        go_wp2_with fail
        refine hKK.out _ _ ?_ (fun hHeld=>?_)
        · (try dsimp only)
          exact HSA.out _ (by first | assumption | exact Kept.alloc (by assumption) _)
        clear hKK KK
        try simp only[Act.put,saz1,saz2,saz3]
        refine wpAnyH_ready (rs:=[23]) (by kernel_rfl) (by simp) ?_
        refine AllReadyH.cons (o:=opnpd3) rfl (fun KK hKK=>?_) ?_
        ·
          go_simp
          refine hKK.out _ _ ?_ (fun hHeld=>?_)
          · (try dsimp only)
            exact HSA.out _ (by first | assumption | exact Kept.alloc (by assumption) _)
          clear hKK KK
          try simp only[Act.put,saz1,saz2,saz3]
          refine wpAnyH_take (i:=25) (oi:=opnpd1) (v:=?_) rfl (by kernel_rfl) (by kernel_rfl) (by kernel_rfl) (fun _ _ _ h=>h) (Or.inl ⟨by rfl,?_⟩) (by assumption) ?_
          rotate_left
          · intro w hSw
            (try dsimp only at hSw);go_simp;all_goals with_reducible rfl
          try simp only[Act.put,saz1,saz2,saz3]
          refine wpAnyH_take (i:=26) (oi:=opnpd0) (v:=?_) rfl (by kernel_rfl) (by kernel_rfl) (by kernel_rfl) (fun _ _ _ h=>h) (Or.inl ⟨by rfl,?_⟩) (by assumption) ?_
          rotate_left
          · intro w hSw
            (try dsimp only at hSw);go_simp;all_goals with_reducible rfl
          try simp only[Act.put,saz1,saz2,saz3]
          refine wpAnyH_done (by kernel_rfl) ?_ _
          go_wp2
          go_ret2
          have e1:x.fst m=⟨false,x.ks.take m,[],x.is.take (m+1)⟩:=by unfold Nd.fst;rw[if_neg (by rw[HLF.out];decide)]
          have e2:x.snd m=⟨false,x.ks.drop (m+1),[],x.is.drop (m+1)⟩:=by unfold Nd.snd;rw[if_neg (by rw[HLF.out];decide)]
          have kA:=k5.alloc (.cells #[.bool false,.slice kpA m kcA,.slice vpA 0 vcA,.slice ipA (m+1) icA,.bool false,.slice kpB (nk-(m+1)) kcB,.slice vpB 0 vcB,.slice ipB (ni1-(m+1)) icB] 71)
          have kB:=(Kept.refl v5).alloc (.cells #[.bool false,.slice kpA m kcA,.slice vpA 0 vcA,.slice ipA (m+1) icA,.bool false,.slice kpB (nk-(m+1)) kcB,.slice vpB 0 vcB,.slice ipB (ni1-(m+1)) icB] 71)
          exact⟨_,m,key,_,_,_,_,_,_,_,_,_,_,_,_,_,_,_,_,_,_,rfl,HKY.out,HM.out,heap_alloc_new v5 _,(by rw[e1];exact⟨(NV.of rfl (A1.kept kA) (A2.kept kA) (A3.kept kA)),A1.z,A2.z,A3.z⟩),(by rw[e2];exact⟨(NV.of rfl (B1.kept kB) (B2.kept kB) (B3.kept kB)),B1.z,B2.z,B3.z⟩),K4.trans (J2.trans kB)⟩
        exact AllReadyH.nil
      exact AllReadyH.nil
    exact AllReadyH.nil
theorem part_walk{w:World}{l:Bool}{kp:Option Addr}{nk kc:Nat}{vp:Option Addr}{nv vc:Nat}{ip:Option Addr}{ni ic:Nat}{x:Nd}(h:NV w l kp nk kc vp nv vc ip ni ic x)(g:Good x)(hbig:237<x.put.length) :
  Calls Tryz.prog 118 #[.agg #[.bool l,.slice kp nk kc,.slice vp nv vc,.slice ip ni ic]] w fun e w'=>∃ (g m:Nat) (key:ByteArray) (kpA:Option Addr) (nkA kcA:Nat) (vpA:Option Addr) (nvA vcA:Nat) (ipA:Option Addr) (niA icA:Nat) (kpB:Option Addr) (nkB kcB:Nat) (vpB:Option Addr) (nvB vcB:Nat) (ipB:Option Addr) (niB icB:Nat),e=.returned (.tuple #[.slice (some ⟨g,0,none⟩) 2 2,.string key])∧x.ks[m]? = some key∧Mid x 0 m∧w'.heap[g]? = some (.cells #[.bool l,.slice kpA nkA kcA,.slice vpA nvA vcA,.slice ipA niA icA,.bool l,.slice kpB nkB kcB,.slice vpB nvB vcB,.slice ipB niB icB] 71)∧NZ w' l kpA nkA kcA vpA nvA vcA ipA niA icA (x.fst m)∧NZ w' l kpB nkB kcB vpB nvB vcB ipB niB icB (x.snd m)∧Kept w w':=by
 cases l with
 | true=>exact part_true h g hbig
 | false=>exact part_false h g hbig
end Go.Proofs.YtafgecaeiodmiaaGreatDoor.N