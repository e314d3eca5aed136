/- Joined. -/
import Derived.Test.YtifeihnhkbagpaaGreatDoorZay
import Derived.Test.YtifeihnhkbagpaaGreatDoorZaz
set_option maxHeartbeats 2000000
set_option maxRecDepth 100000
namespace Go.Proofs.YtifeihnhkbagpaaGreatDoor.N
open ChangeShapes WideShapes ChangeAt RowKit
structure Nd where
 leaf:Bool
 ks:List ByteArray
 vs:List Vl
 is:List Int
def Nd.item (x:Nd) (i:Nat):List Nat:=dW (x.ks[i]?.getD ⟨#[]⟩)++(if x.leaf=true then ll (x.vs[i]?.getD ⟨⟨#[]⟩,-1,0⟩) else ae (x.is[i+1]?.getD 0).toNat)
def Nd.items (x:Nd):Nat->List Nat
 | 0=>[]
 | i+1=>x.items i++x.item i
def Nd.head (x:Nd):List Nat:=ae x.ks.length++(if x.leaf=true then [] else ae (x.is[0]?.getD 0).toNat)
def Nd.put (x:Nd):List Nat:=x.head++x.items x.ks.length
structure Good (x:Nd):Prop where
 few:x.ks.length<=120
 small:∀ k∈x.ks,k.size<=64
 lv:x.leaf=true->x.vs.length=x.ks.length/\x.is=[]
 li:x.leaf=false->x.is.length=x.ks.length+1/\x.vs=[]
 ok:∀ v∈x.vs,BD v
 ik:∀ i∈x.is,∃ q:Nat,i=(q:Int)/\q<=16383
structure Rx (w:World) (e:TypeId) (p:Option Addr) (c:Nat):Prop where
 typ:∀ b off ph,p=some ⟨b,off,ph⟩->∃ cs fr,w.heap[b]? = some (.cells cs e fr)
 nil:p=none->c=0
def Nw (B:Nat) (p:Option Addr):Prop:=∀ b off ph,p=some ⟨b,off,ph⟩->B<=b
variable {w:World}{B n c:Nat}{e:TypeId}{p:Option Addr}{cs:List Value}
theorem Own.nw{sz:Nat}(h:Own w B e sz p n c cs):Nw B p:=by
 intro b off ph e1;rcases h.cases with⟨e2,_⟩|⟨g,cur,e2,hB,_⟩
 ·rw[e2]at e1;cases e1
 ·rw[e2]at e1;injection e1 with e1;injection e1 with e1;subst e1;exact hB
theorem Nw.mono{B':Nat}(h:Nw B p)(k:B'<=B):Nw B' p:=fun b off ph e=>aad k (h b off ph e)
theorem Rx.none(w:World)(e:TypeId):Rx w e none 0:=⟨(fun _ _ _ h=>by cases h),fun _=>rfl⟩
variable {w':World}
theorem Rx.kept(h:Rx w e p c)(k:Kept w w'):Rx w' e p c:=
 ⟨(fun b off ph hp=>by obtain⟨cs,fr,hb⟩:=h.typ b off ph hp;exact⟨cs,fr,(k.out.block b (aaa.1 hb).1).trans hb⟩),h.nil⟩
theorem Own.rx{sz:Nat}(k:Own w B e sz p n c cs):Rx w e p c:=by
 rcases k.cases with⟨rfl,_,rfl,_⟩|⟨g,cur,rfl,_,_,hg,_⟩
 ·exact Rx.none w e
 ·refine⟨fun b off ph hp=>?_,fun h=>by cases h⟩
  injection hp with hp
  injection hp with hp _ _
  subst hp;exact⟨cur,_,hg⟩
structure NV (w:World) (l:Bool) (kp:Option Addr) (nk kc:Nat) (vp:Option Addr) (nv vc:Nat) (ip:Option Addr) (ni ic:Nat) (x:Nd):Prop where
 hl:x.leaf=l
 k:Rw w 1 kp nk kc (dA x.ks)
 v:Rw w 3 vp nv vc (dQ x.vs)
 i:Rw w 1 ip ni ic (aO x.is)
 kx:Rx w 9 kp kc
 vx:Rx w 77 vp vc
 ix:Rx w 3 ip ic
variable {l:Bool}{kp vp ip:Option Addr}{kc vc ic:Nat}{x:Nd}
theorem NV.of{nk:Nat}{nv:Nat}{ni:Nat}{B1 B2 B3:Nat}(hl:x.leaf=l)(k:Own w B1 9 1 kp nk kc (dA x.ks))(v:Own w B2 77 3 vp nv vc (dQ x.vs))(i:Own w B3 3 1 ip ni ic (aO x.is)):NV w l kp nk kc vp nv vc ip ni ic x:=
 ⟨hl,k.rw,v.rw,i.rw,k.rx,v.rx,i.rx⟩
theorem NV.kept{nk:Nat}{nv:Nat}{ni:Nat}(h:NV w l kp nk kc vp nv vc ip ni ic x)(k:Kept w w'):NV w' l kp nk kc vp nv vc ip ni ic x:=⟨h.hl,k.rw h.k,k.rw h.v,k.rw h.i,h.kx.kept k,h.vx.kept k,h.ix.kept k⟩
theorem NV.nk{nk:Nat}{nv:Nat}{ni:Nat}(h:NV w l kp nk kc vp nv vc ip ni ic x):x.ks.length=nk:=by
 have:=h.k.len;rwa [iK,aay]at this
theorem NV.nv{nk:Nat}{nv:Nat}{ni:Nat}(h:NV w l kp nk kc vp nv vc ip ni ic x):x.vs.length=nv:=by
 have:=h.v.len;rw[iL]at this;omega
theorem NV.ni{nk:Nat}{nv:Nat}{ni:Nat}(h:NV w l kp nk kc vp nv vc ip ni ic x):x.is.length=ni:=by
 have:=h.i.len;rwa [yt,aay]at this
theorem Rw.some{sz:Nat}(h:Rw w sz p n c cs)(hn:0<n):∃ b off,p=some ⟨b,off,none⟩/\∀ j u,cs[j]? = some u->w.cell? ⟨b,off+j,none⟩=some u:=
 h.out.resolve_left (fun q=>by omega)
theorem lL{nk:Nat}{nv:Nat}{ni:Nat}(h:NV w l kp nk kc vp nv vc ip ni ic x)(g:Good x)(i:Nat)(hi:i<nk):
 Calls Tryz.prog 216 #[.agg #[.bool l,.slice kp nk kc,.slice vp nv vc,.slice ip ni ic],.int .i64 i] w fun e w'=>e=.returned (.string (bs (x.item i)))/\Kept w w':=by
 have hnk:=h.nk;have Nn:=h.nv;have hni:=h.ni;obtain⟨k,hk⟩:∃ k,x.ks[i]? = some k:=⟨_,aae (by omega)⟩;obtain⟨kb,ko,rfl,hkc⟩:=h.k.some (by omega);have c0:=hkc i _ (vE hk);have hks:=g.small k (aak hk);cases l with
 | true=>
  have hv2:=(g.lv h.hl).1;obtain⟨v,hv⟩:∃ v,x.vs[i]? = some v:=⟨_,aae (by omega)⟩;obtain⟨vb,vo,rfl,Cm⟩:=h.v.some (by omega);obtain⟨a0,a1,a2⟩:=sw hv;have b0:=Cm _ _ a0;have b1:=Cm _ _ a1;have b2:=Cm _ _ a2;rw[<- Nat.add_assoc]at b1 b2;have e1:x.item i=dW k++ll v:=by unfold Nd.item;rw[hk,hv,aao h.hl];rfl
  rw[e1];obtain⟨d,p,ln⟩:=v;rcases g.ok _ (aak hv) with⟨h1,h2,h3⟩|⟨h1,p',l',h2,h3,h4,h5,h6⟩
  ·simp only at h1 h2 h3
   subst h1;subst h2;have e2:ll ⟨d,-1,0⟩=ae 0++(ae d.size++un d):=by unfold ll;rw[aao (by show (-1:Int)<0;decide)]
   rw[e2];exact Ku hi (by omega) c0 b0 b1 b2 hks h3
  ·simp only at h1 h2 h4
   subst h2;subst h4;have e2:ll ⟨d,(p':Int),(l':Int)⟩=ae 1++(ae p'++ae l'):=by unfold ll;rw[aai (by show ¬ (p':Int)<0;omega)];rfl
   rw[e2];exact FH hi (by omega) c0 b0 b1 b2 hks (by omega) (by omega)
 | false=>
  have hv2:=(g.li h.hl).1;obtain⟨v,hv⟩:∃ v,x.is[i+1]? = some v:=⟨_,aae (by omega)⟩;obtain⟨ib,io,rfl,Cm⟩:=h.i.some (by omega);have b0:=Cm _ _ (BB hv);obtain⟨q,rfl,hq⟩:=g.ik v (aak hv);have e1:x.item i=dW k++ae q:=by unfold Nd.item;rw[hk,hv,aai (by rw[h.hl];decide)];rfl
  rw[e1];exact FE hi (by omega) (by have:=g.few;omega) c0 b0 hks (by omega)
structure St (W1:World) (L:List Nat) (W:World):Prop where
 b:Lib.IsBuilderF 213 5 W1.heap.size W1.heap.size (Lib.byteCells (L.map UInt8.ofNat)) W
 k:Kept W1 W
 len:L.length<=100000
theorem St.start(W1:World):St W1 [] (W1.alloc (.cells #[.pointer none,.slice none 0 0] 213)):=
 ⟨.inl ⟨aac _,.slice none 0 0,heap_alloc_new W1 _,World.ownsRowF_nil _ _ _ _,by simp[Value.ownBlock]⟩,(Kept.refl W1).alloc _,aag _⟩
variable {W:World}{L:List Nat}
theorem St.kept{W1 W':World}(h:St W1 L W)(k:Kept W W'):St W1 L W':=by
 have key:∀ p,Lib.BuilderAtF 213 5 W1.heap.size W1.heap.size p (Lib.byteCells (L.map UInt8.ofNat)) W->Lib.BuilderAtF 213 5 W1.heap.size W1.heap.size p (Lib.byteCells (L.map UInt8.ofNat)) W':=by
  rintro p ⟨h1,v,h2,h3,h4⟩;exact⟨h1,v,k.block h2,h3.kept (k.grown none) (by cases v.ownBlock <;> simp),h4⟩
 exact⟨h.b.elim (fun x=>.inl (key _ x)) (fun x=>.inr (key _ x)),h.k.trans k,h.len⟩
theorem St.write{W1:World}(h:St W1 L W)(M:List Nat)(hm:L.length+M.length<=100000):
 Calls Tryz.prog 135 #[.pointer (some ⟨W1.heap.size,0,none⟩),.string (bs M)] W fun e w'=>e=.returned (.tuple #[.int .i64 ((bs M).size:Nat),.nilIface])/\St W1 (L++M) w':=by
 refine (Tryz.Builder_WriteString_k _ _ _ (bs M) W h.b (by rw[Lib.byteCells_length,List.length_map,au];omega) h.k.size).mono ?_;rintro e w' ⟨rfl,h1,h2,h3⟩;refine⟨rfl,⟨?_,⟨h.k.out.trans h2⟩,by rw[aah];exact hm⟩⟩;rw[List.map_append,Lib.byteCells_append];exact Or.inr h1
theorem St.text{W1:World}(h:St W1 L W):
 Calls Tryz.prog 136 #[.pointer (some ⟨W1.heap.size,0,none⟩)] W fun e w'=>e=.returned (.string (bs L))/\Kept W1 w':=by
 refine (Tryz.Builder_String_any_k _ _ (L.map UInt8.ofNat) W h.b h.k.size).mono ?_;rintro e w' ⟨rfl,_,h2,_⟩;exact⟨rfl,⟨h.k.out.trans h2⟩⟩
theorem ku(g:Good x)(i:Nat)(hi:i<x.ks.length):(x.item i).length<=115:=by
 obtain⟨k,hk⟩:∃ k,x.ks[i]? = some k:=⟨_,aae hi⟩;have a:=dK k (g.small k (aak hk));unfold Nd.item;rw[hk,aah];cases hl:x.leaf with
 | true=>
  have hv2:=(g.lv hl).1;obtain⟨v,hv⟩:∃ v,x.vs[i]? = some v:=⟨_,aae (by omega)⟩;have b:=kg v (g.ok _ (aak hv));rw[aao rfl,hv];show (dW k).length+(ll v).length<=115;omega
 | false=>
  have hv2:=(g.li hl).1;obtain⟨v,hv⟩:∃ v,x.is[i+1]? = some v:=⟨_,aae (by omega)⟩;obtain⟨q,rfl,hq⟩:=g.ik v (aak hv);have b:=aP q (by omega);rw[aai (by decide),hv];show (dW k).length+(ae q).length<=115;omega
theorem jy{x:Nd}(g:Good x):∀ i,i<=x.ks.length->(x.items i).length<=i*115
 | 0,_=>by simp[Nd.items]
 | i+1,h=>by
  have a:=jy g i (by omega);have b:=ku g i (by omega);rw[Nd.items,aah];omega
theorem ky(g:Good x):x.head.length<=6:=by
 have a:=aP x.ks.length (by have:=g.few;omega);unfold Nd.head;rw[aah];split
 ·simp;omega
 ·rename_i hl
  have hv2:=(g.li (by simpa using hl)).1;obtain⟨v,hv⟩:∃ v,x.is[0]? = some v:=⟨_,aae (by omega)⟩;obtain⟨q,rfl,hq⟩:=g.ik v (aak hv);have b:=aP q (by omega);rw[hv];show (ae x.ks.length).length+(ae q).length<=6;omega
theorem gz{nk:Nat}{nv:Nat}{ni:Nat}(h:NV w l kp nk kc vp nv vc ip ni ic x)(g:Good x):
 Calls Tryz.prog 144 #[.agg #[.bool l,.slice kp nk kc,.slice vp nv vc,.slice ip ni ic]] w fun e w'=>∃ kp' aY bO wD eO kY wE kZ,e=.returned (.agg #[.bool l,.slice kp' nk aY,.slice bO wD eO,.slice kY wE kZ])/\Own w' w.heap.size 9 1 kp' nk aY (dA x.ks)/\Own w' w.heap.size 77 3 bO wD eO (dQ x.vs)/\Own w' w.heap.size 3 1 kY wE kZ (aO x.is)/\Kept w w':=by
 have hnk:=h.nk;have Nn:=h.nv;have hni:=h.ni;have hf:=g.few;cases l with
 | true=>
  obtain⟨e1,e2⟩:=g.lv h.hl;obtain rfl:nv=nk:=by omega
  refine (yl h.k h.v (eQ _) (fQ _) (by omega)).mono ?_;rintro e w' ⟨kp',aY,bO,rfl,o1,o2,k⟩;refine⟨_,_,_,_,_,_,_,_,rfl,o1,o2,?_,k⟩;rw[e2];exact⟨World.ownsRow_nil _ _ _ _⟩
 | false=>
  obtain⟨e1,e2⟩:=g.li h.hl;obtain rfl:ni=nk+1:=by omega
  refine (Dq h.k h.i (eQ _) (lg _) (by omega)).mono ?_;rintro e w' ⟨kp',aY,bO,rfl,o1,o2,k⟩;refine⟨_,_,_,_,_,_,_,_,rfl,o1,?_,o2,k⟩;rw[e2];exact⟨World.ownsRow_nil _ _ _ _⟩
theorem Nt{nk:Nat}{nv:Nat}{ni:Nat}(h:NV w true kp nk kc vp nv vc ip ni ic x)(g:Good x):
 Calls Tryz.prog 180 #[.agg #[.bool true,.slice kp nk kc,.slice vp nv vc,.slice ip ni ic]] w fun e w'=>e=.returned (.string (bs x.put))/\Kept w w':=by
  have HW:Hid (∀ W,Kept w W->Calls Tryz.prog 144 #[.agg #[.bool true,.slice kp nk kc,.slice vp nv vc,.slice ip ni ic]] W fun e w'=>∃ kp' aY bO wD eO kY wE kZ,e=.returned (.agg #[.bool true,.slice kp' nk aY,.slice bO wD eO,.slice kY wE kZ])/\Own w' W.heap.size 9 1 kp' nk aY (dA x.ks)/\Own w' W.heap.size 77 3 bO wD eO (dQ x.vs)/\Own w' W.heap.size 3 1 kY wE kZ (aO x.is)/\Kept W w'):=fun W hW=>gz (h.kept hW) g
  have hf:nk<=120:=by have:=g.few;have:=h.nk;omega
  have G:Hid _:=g;have HKL:Hid (x.ks.length=nk):=h.nk;have HLF:Hid (x.leaf=true):=h.hl;have HN:Hid (∀ W,Calls Tryz.prog 215 #[.int .i64 nk] W fun e w'=>e=.returned (.string (bs (ae nk)))/\Kept W w'):=fun W=>eY nk (by omega) W
  have HHD:Hid (x.head=[]++ae nk):=by show _=_;unfold Nd.head;rw[aao h.hl,h.nk];simp
  have K0:Kept w (w.alloc (.cells #[.bool true,.slice kp nk kc,.slice vp nv vc,.slice ip ni ic] 121)):=(Kept.refl w).alloc _;have X0:=C4.alloc w 121 (.bool true) (.slice kp nk kc) (.slice vp nv vc) (.slice ip ni ic);have S0:=size_alloc w (.cells #[.bool true,.slice kp nk kc,.slice vp nv vc,.slice ip ni ic] 121);have HZ:Hid ((ae nk).length<=3):=aP nk (by omega);have HIT:Hid (∀ i,i<=nk->(x.items i).length<=i*115):=fun i hi=>jy g i (by have:=h.nk;omega)
  have HIL:Hid (∀ i,i<nk->(x.item i).length<=115):=fun i hi=>ku g i (by have:=h.nk;omega)
  have HHL:Hid (x.head.length<=6):=ky g;clear h g;go_enter Tryz.func180,Tryz.ntmps180;go_wp2_with (first
    | (go_at_call 144
       (with_reducible refine (HW.out _ K0).mono ?_)
       rintro e v1 ⟨ja,fT,nE,lq,pV,sO,mg,nX,rfl,O1,O2,O3,k1⟩
       have X1:=X0.kept k1
       have K1:=K0.trans k1
       rw[S0]at O1 O2 O3
       obtain⟨⟨g0,f0⟩,⟨g1,f1⟩,⟨g2,f2⟩,⟨g3,f3⟩,hfin⟩:=aD X1.out (.bool true) (.slice ja nk fT) (.slice nE lq pV) (.slice sO mg nX)
       obtain⟨W1,hW1,V1,K2,hsz,c4⟩:∃ W1,Hid (W1=((((v1.setCell ⟨w.heap.size,0,none⟩ (.bool true)).setCell ⟨w.heap.size,1,none⟩ (.slice ja nk fT)).setCell ⟨w.heap.size,2,none⟩ (.slice nE lq pV)).setCell ⟨w.heap.size,3,none⟩ (.slice sO mg nX)))/\NV W1 true ja nk fT nE lq pV sO mg nX x/\Kept w W1/\Hid (W1.heap.size=v1.heap.size)/\C4 W1 w.heap.size 121 (.bool true) (.slice ja nk fT) (.slice nE lq pV) (.slice sO mg nX):=⟨_,rfl,(NV.of HLF.out (O1.bS (aaK _) _ _ _ _) (O2.bS (aaK _) _ _ _ _) (O3.bS (aaK _) _ _ _ _)),K1.bS (aac _) _ _ _ _,(by show _=_;rw[size_set,size_set,size_set,size_set]),⟨hfin⟩⟩
       have Wx:Hid (∀ W L M,St W1 L W->L.length+M.length<=100000->Calls Tryz.prog 135 #[.pointer (some ⟨v1.heap.size,0,none⟩),.string (bs M)] W fun e w'=>e=.returned (.tuple #[.int .i64 ((bs M).size:Nat),.nilIface])/\St W1 (L++M) w'):=(fun W L M hS hM=>by rw[<- hsz.out];exact hS.write M hM)
       have Zz:Hid (∀ W L,St W1 L W->Calls Tryz.prog 136 #[.pointer (some ⟨v1.heap.size,0,none⟩)] W fun e w'=>e=.returned (.string (bs L))/\Kept W1 w'):=(fun W L hS=>by rw[<- hsz.out];exact hS.text)
       have T1:St W1 [] (((((v1.setCell ⟨w.heap.size,0,none⟩ (.bool true)).setCell ⟨w.heap.size,1,none⟩ (.slice ja nk fT)).setCell ⟨w.heap.size,2,none⟩ (.slice nE lq pV)).setCell ⟨w.heap.size,3,none⟩ (.slice sO mg nX)).alloc (.cells #[.pointer none,.slice none 0 0] 213)):=(by rw[<- hW1.out];exact St.start W1)
       have q1:=(c4.kept T1.k).cs.2.1
       clear HW X0 K0 S0 O1 O2 O3 k1 X1 K1 hfin)
    | (go_at_call 215
       (with_reducible refine (HN.out _).mono ?_)
       rintro e v2 ⟨rfl,k2⟩
       have T2:=T1.kept k2
       clear T1 HN k2 g0 f0 g1 f1 g2 f2 g3 f3)
    | (go_at_call 135
       (with_reducible refine (Wx.out _ _ _ T2 (by have:=HZ.out;simp;omega)).mono ?_)
       rintro e v3 ⟨rfl,T3⟩
       obtain⟨a0,a1,a2,a3⟩:=(c4.kept T3.k).cs
       clear T2
       skip))
  have T9:St W1 (x.head++x.items 0) v3:=by
    have:x.head++x.items 0=[]++ae nk:=by rw[HHD.out];simp[Nd.items]
    rw[this];exact T3
  go_loopg [24] nk (fun gg v wx=>∃ i:Nat,v=.int .i64 (i:Nat)/\Hid (gg=nk-i)/\i<=nk/\Hid (St W1 (x.head++x.items i) wx));case atStart=>exact⟨0,rfl,rfl,aag _,T9⟩
  case round=>
    obtain⟨i,rfl,hg,hin,T⟩:=hrel;by_cases h1:i<nk
    · have h1':(i:Int)<(nk:Int):=by omega
      obtain⟨b0,b1,b2,b3⟩:=(c4.kept T.out.k).cs;have HI:Hid (∀ W,Kept W1 W->Calls Tryz.prog 216 #[.agg #[.bool true,.slice ja nk fT,.slice nE lq pV,.slice sO mg nX],.int .i64 (i:Nat)] W fun e w'=>e=.returned (.string (bs (x.item i)))/\Kept W w'):=fun W hW=>lL (V1.kept hW) G.out i h1
      have hlen:(x.head++x.items i).length+(x.item i).length<=100000:=by
        have p1:=HIT.out i hin;have p2:=HIL.out i h1;have p3:=HHL.out;rw[aah];omega
      have HLen:Hid ((x.head++x.items i).length+(x.item i).length<=100000):=hlen;clear hlen;go_wp2_with (first
        | (go_at_call 216
           (with_reducible refine (HI.out _ T.out.k).mono ?_)
           rintro e v5 ⟨rfl,k5⟩
           have T5:=T.out.kept k5)
        | (go_at_call 135
           (with_reducible refine (Wx.out _ _ _ T5 HLen.out).mono ?_)
           rintro e v6 ⟨rfl,T6⟩))
      go_roundg (nk-(i+1));case measure=>rw[hg.out];omega
      case rel=>exact⟨i+1,by go_num,rfl,by omega,by rw[Nd.items,<- aap];exact T6⟩
    · obtain rfl:i=nk:=by omega
      have h1':¬ ((i:Int)<(i:Int)):=by omega
      go_wp2_with (first
        | (go_at_call 136
           (with_reducible refine (Zz.out _ _ T.out).mono ?_)
           rintro e v7 ⟨rfl,k7⟩))
      go_ret;refine⟨?_,K2.trans k7⟩;unfold Nd.put;rw[HKL.out];rfl
theorem Kv{nk:Nat}{nv:Nat}{ni:Nat}(h:NV w false kp nk kc vp nv vc ip ni ic x)(g:Good x):
 Calls Tryz.prog 180 #[.agg #[.bool false,.slice kp nk kc,.slice vp nv vc,.slice ip ni ic]] w fun e w'=>e=.returned (.string (bs x.put))/\Kept w w':=by
  have HW:Hid (∀ W,Kept w W->Calls Tryz.prog 144 #[.agg #[.bool false,.slice kp nk kc,.slice vp nv vc,.slice ip ni ic]] W fun e w'=>∃ kp' aY bO wD eO kY wE kZ,e=.returned (.agg #[.bool false,.slice kp' nk aY,.slice bO wD eO,.slice kY wE kZ])/\Own w' W.heap.size 9 1 kp' nk aY (dA x.ks)/\Own w' W.heap.size 77 3 bO wD eO (dQ x.vs)/\Own w' W.heap.size 3 1 kY wE kZ (aO x.is)/\Kept W w'):=fun W hW=>gz (h.kept hW) g
  have hf:nk<=120:=by have:=g.few;have:=h.nk;omega
  have G:Hid _:=g;have HKL:Hid (x.ks.length=nk):=h.nk;have HLF:Hid (x.leaf=false):=h.hl;have HN:Hid (∀ W,Calls Tryz.prog 215 #[.int .i64 nk] W fun e w'=>e=.returned (.string (bs (ae nk)))/\Kept W w'):=fun W=>eY nk (by omega) W
  obtain⟨q,hq0,hqs⟩:∃ q:Nat,x.is[0]? = some (q:Int)/\q<=16383:=by
    have hv2:=(g.li h.hl).1;obtain⟨v,hv⟩:∃ v,x.is[0]? = some v:=⟨_,aae (by omega)⟩;obtain⟨q,rfl,hq⟩:=g.ik v (aak hv);exact⟨q,hv,hq⟩
  have ZC:Hid (x.is[0]? = some (q:Int)):=hq0;have HHD:Hid (x.head=[]++ae nk++ae q):=by show _=_;unfold Nd.head;rw[aai (by rw[h.hl];decide),h.nk,hq0];simp
  have HQ:Hid (∀ W,Calls Tryz.prog 215 #[.int .i64 q] W fun e w'=>e=.returned (.string (bs (ae q)))/\Kept W w'):=fun W=>eY q (by omega) W
  have HZ2:Hid ((ae q).length<=3):=aP q (by omega);have ZE:Hid (x.is.length=nk+1):=by show _=_;have:=(g.li h.hl).1;have:=h.nk;omega
  clear hq0;have K0:Kept w (w.alloc (.cells #[.bool false,.slice kp nk kc,.slice vp nv vc,.slice ip ni ic] 121)):=(Kept.refl w).alloc _;have X0:=C4.alloc w 121 (.bool false) (.slice kp nk kc) (.slice vp nv vc) (.slice ip ni ic);have S0:=size_alloc w (.cells #[.bool false,.slice kp nk kc,.slice vp nv vc,.slice ip ni ic] 121);have HZ:Hid ((ae nk).length<=3):=aP nk (by omega);have HIT:Hid (∀ i,i<=nk->(x.items i).length<=i*115):=fun i hi=>jy g i (by have:=h.nk;omega)
  have HIL:Hid (∀ i,i<nk->(x.item i).length<=115):=fun i hi=>ku g i (by have:=h.nk;omega)
  have HHL:Hid (x.head.length<=6):=ky g;clear h g;go_enter Tryz.func180,Tryz.ntmps180;go_wp2_with (first
    | (go_at_call 144
       (with_reducible refine (HW.out _ K0).mono ?_)
       rintro e v1 ⟨ja,fT,nE,lq,pV,sO,mg,nX,rfl,O1,O2,O3,k1⟩
       have X1:=X0.kept k1
       have K1:=K0.trans k1
       rw[S0]at O1 O2 O3
       obtain⟨⟨g0,f0⟩,⟨g1,f1⟩,⟨g2,f2⟩,⟨g3,f3⟩,hfin⟩:=aD X1.out (.bool false) (.slice ja nk fT) (.slice nE lq pV) (.slice sO mg nX)
       obtain⟨W1,hW1,V1,K2,hsz,c4⟩:∃ W1,Hid (W1=((((v1.setCell ⟨w.heap.size,0,none⟩ (.bool false)).setCell ⟨w.heap.size,1,none⟩ (.slice ja nk fT)).setCell ⟨w.heap.size,2,none⟩ (.slice nE lq pV)).setCell ⟨w.heap.size,3,none⟩ (.slice sO mg nX)))/\NV W1 false ja nk fT nE lq pV sO mg nX x/\Kept w W1/\Hid (W1.heap.size=v1.heap.size)/\C4 W1 w.heap.size 121 (.bool false) (.slice ja nk fT) (.slice nE lq pV) (.slice sO mg nX):=⟨_,rfl,(NV.of HLF.out (O1.bS (aaK _) _ _ _ _) (O2.bS (aaK _) _ _ _ _) (O3.bS (aaK _) _ _ _ _)),K1.bS (aac _) _ _ _ _,(by show _=_;rw[size_set,size_set,size_set,size_set]),⟨hfin⟩⟩
       have Wx:Hid (∀ W L M,St W1 L W->L.length+M.length<=100000->Calls Tryz.prog 135 #[.pointer (some ⟨v1.heap.size,0,none⟩),.string (bs M)] W fun e w'=>e=.returned (.tuple #[.int .i64 ((bs M).size:Nat),.nilIface])/\St W1 (L++M) w'):=(fun W L M hS hM=>by rw[<- hsz.out];exact hS.write M hM)
       have Zz:Hid (∀ W L,St W1 L W->Calls Tryz.prog 136 #[.pointer (some ⟨v1.heap.size,0,none⟩)] W fun e w'=>e=.returned (.string (bs L))/\Kept W1 w'):=(fun W L hS=>by rw[<- hsz.out];exact hS.text)
       have T1:St W1 [] (((((v1.setCell ⟨w.heap.size,0,none⟩ (.bool false)).setCell ⟨w.heap.size,1,none⟩ (.slice ja nk fT)).setCell ⟨w.heap.size,2,none⟩ (.slice nE lq pV)).setCell ⟨w.heap.size,3,none⟩ (.slice sO mg nX)).alloc (.cells #[.pointer none,.slice none 0 0] 213)):=(by rw[<- hW1.out];exact St.start W1)
       have q1:=(c4.kept T1.k).cs.2.1
       clear HW X0 K0 S0 O1 O2 O3 k1 X1 K1 hfin)
    | (go_at_call 215
       (with_reducible refine (HN.out _).mono ?_)
       rintro e v2 ⟨rfl,k2⟩
       have T2:=T1.kept k2
       clear T1 HN k2 g0 f0 g1 f1 g2 f2 g3 f3)
    | (go_at_call 135
       (with_reducible refine (Wx.out _ _ _ T2 (by have:=HZ.out;simp;omega)).mono ?_)
       rintro e v3 ⟨rfl,T3⟩
       obtain⟨a0,a1,a2,a3⟩:=(c4.kept T3.k).cs
       clear T2
       have hni:=V1.ni
       rw[ZE.out]at hni
       subst hni
       obtain⟨ib,io,rfl,hic⟩:=V1.i.some (Nat.succ_pos _)
       have hq1:=T3.k.cell (hic 0 _ (BB ZC.out))
       rw[Nat.add_zero]at hq1
       clear hic)
    | (go_at_call 215
       (with_reducible refine (HQ.out _).mono ?_)
       rintro e v4 ⟨rfl,k4⟩
       have T4:=T3.kept k4
       clear T3 HQ k4)
    | (go_at_call 135
       (with_reducible refine (Wx.out _ _ _ T4 (by have:=HZ.out;have:=HZ2.out;simp;omega)).mono ?_)
       rintro e v5 ⟨rfl,T5⟩
       obtain⟨b0,b1,b2,b3⟩:=(c4.kept T5.k).cs
       clear T4))
  have T9:St W1 (x.head++x.items 0) v5:=by
    have:x.head++x.items 0=[]++ae nk++ae q:=by rw[HHD.out];simp[Nd.items]
    rw[this];exact T5
  go_loopg [24] nk (fun gg v wx=>∃ i:Nat,v=.int .i64 (i:Nat)/\Hid (gg=nk-i)/\i<=nk/\Hid (St W1 (x.head++x.items i) wx));case atStart=>exact⟨0,rfl,rfl,aag _,T9⟩
  case round=>
    obtain⟨i,rfl,hg,hin,T⟩:=hrel;by_cases h1:i<nk
    · have h1':(i:Int)<(nk:Int):=by omega
      obtain⟨b0,b1,b2,b3⟩:=(c4.kept T.out.k).cs;have HI:Hid (∀ W,Kept W1 W->Calls Tryz.prog 216 #[.agg #[.bool false,.slice ja nk fT,.slice nE lq pV,.slice (some ⟨ib,io,none⟩) (nk+1) nX],.int .i64 (i:Nat)] W fun e w'=>e=.returned (.string (bs (x.item i)))/\Kept W w'):=fun W hW=>lL (V1.kept hW) G.out i h1
      have hlen:(x.head++x.items i).length+(x.item i).length<=100000:=by
        have p1:=HIT.out i hin;have p2:=HIL.out i h1;have p3:=HHL.out;rw[aah];omega
      have HLen:Hid ((x.head++x.items i).length+(x.item i).length<=100000):=hlen;clear hlen;go_wp2_with (first
        | (go_at_call 216
           (with_reducible refine (HI.out _ T.out.k).mono ?_)
           rintro e v5 ⟨rfl,k5⟩
           have T5:=T.out.kept k5)
        | (go_at_call 135
           (with_reducible refine (Wx.out _ _ _ T5 HLen.out).mono ?_)
           rintro e v6 ⟨rfl,T6⟩))
      go_roundg (nk-(i+1));case measure=>rw[hg.out];omega
      case rel=>exact⟨i+1,by go_num,rfl,by omega,by rw[Nd.items,<- aap];exact T6⟩
    · obtain rfl:i=nk:=by omega
      have h1':¬ ((i:Int)<(i:Int)):=by omega
      go_wp2_with (first
        | (go_at_call 136
           (with_reducible refine (Zz.out _ _ T.out).mono ?_)
           rintro e v7 ⟨rfl,k7⟩))
      go_ret;refine⟨?_,K2.trans k7⟩;unfold Nd.put;rw[HKL.out];rfl
theorem fB{nk:Nat}{nv:Nat}{ni:Nat}(h:NV w l kp nk kc vp nv vc ip ni ic x)(g:Good x):
 Calls Tryz.prog 180 #[.agg #[.bool l,.slice kp nk kc,.slice vp nv vc,.slice ip ni ic]] w fun e w'=>e=.returned (.string (bs x.put))/\Kept w w':=by
 cases l with
 | true=>exact Nt h g
 | false=>exact Kv h g
variable {i:Nat}
theorem Nu{vs:List Vl}{v:Vl}(h:vs[i]? = some v):dQ (vs.take (i+1))=dQ (vs.take i)++[.string v.d,.int .i64 v.p,.int .i64 v.l]:=by
 rw[aaP,h,ma];simp[dQ,Vl.cells]
theorem Du(w:World)(a b c:Value)(t:TypeId):∀ (j:Nat) (v:Value),[a,b,c][j]? = some v->(w.alloc (.cells #[a,b,c] t)).drew.cell? ((⟨w.heap.size,0,none⟩:Addr).add j)=some v:=by
 intro j v hj;rw[Addr.add_lit,aaj];show (w.alloc (.cells #[a,b,c] t)).cell? ⟨w.heap.size,j,none⟩=some v;rw[World.cell?_alloc_at _ _ _ _ rfl];simpa using hj
def Nd.sz (x:Nd) (i:Nat):Nat:=(x.item i).length
def Nd.tot (x:Nd) (i:Nat):Nat:=(x.items i).length
theorem Nd.kC(x:Nd):x.tot 0=0:=rfl
theorem Nd.bA(x:Nd)(i:Nat):x.tot (i+1)=x.tot i+x.sz i:=by
 unfold Nd.tot Nd.sz;rw[Nd.items,aah]
theorem Nd.qM(x : Nd){i j : Nat}(h : i <= j) : x.tot i <= x.tot j := by
  induction j with
  | zero => obtain rfl : i = 0 := by omega
            exact aac _
  | succ j ih =>
    by_cases e : i = j + 1
    · subst e; exact aac _
    · have := ih (by omega)
      rw [Nd.bA];omega
def Nd.gr (x:Nd) (i:Nat):Nat:=max (x.tot i) (x.tot x.ks.length-x.tot (if x.leaf=true then i else i+1))
theorem Nd.uC(h:x.leaf=true)(i:Nat):x.gr i=max (x.tot i) (x.tot x.ks.length-x.tot i):=by
 unfold Nd.gr;rw[aao h]
theorem Nd.jA(h:x.leaf=false)(i:Nat):x.gr i=max (x.tot i) (x.tot x.ks.length-x.tot (i+1)):=by
 unfold Nd.gr;rw[aai (by rw[h];decide)]
theorem Nd.TV(x:Nd){i:Nat}(h:i<=x.ks.length):x.gr i<=x.tot x.ks.length:=by
 have:=x.qM h;unfold Nd.gr;omega
structure Mid (x:Nd) (a m:Nat):Prop where
 lo:a<=m
 lt:m<x.ks.length
 before:∀ j,a<=j->j<m->x.gr m<x.gr j
 after:∀ j,m<=j->j<x.ks.length->x.gr m<=x.gr j
variable {a m:Nat}
theorem Mid.one{m':Nat}(h:Mid x a m)(h':Mid x a m'):m=m':=by
 by_cases h1:m<m'
 ·have a1:=h'.before m h.lo h1
  have a2:=h.after m' (by omega) h'.lt;omega
 ·by_cases h2:m'<m
  ·have a1:=h.before m' h'.lo h2
   have a2:=h'.after m (by omega) h.lt;omega
  ·omega
def Qm (x:Nd) (a i m:Nat) (l:Int) (most:Int):Prop:=
 (i=a/\m=0/\l=most)\/(a<=m/\m<i/\l=((x.gr m:Nat):Int)/\(∀ j,a<=j->j<m->x.gr m<x.gr j)/\∀ j,m<=j->j<i->x.gr m<=x.gr j)
variable {l most:Int}
theorem Qm.less(h:Qm x a i m l most)(hi:a<=i)(hl:(l=most/\i=a)\/((x.gr i:Nat):Int)<l):Qm x a (i+1) i ((x.gr i:Nat):Int) most:=by
 refine .inr ⟨hi,by omega,rfl,?_,?_⟩
 ·intro j h1 h2
  rcases h with⟨e,_⟩|⟨p1,p2,p3,p4,p5⟩
  ·omega
  ·rcases hl with⟨_,h3⟩|hl
   ·omega
   ·by_cases e:j<m
    ·have:=p4 j h1 e;omega
    ·have:=p5 j (by omega) h2;omega
 ·intro j h1 h2
  obtain rfl:i=j:=by omega
  exact aac _
theorem Qm.more(h:Qm x a i m l most)(hl:¬ ((x.gr i:Nat):Int)<l)(hm:¬ (l=most/\i=a)):Qm x a (i+1) m l most:=by
 rcases h with⟨e,_,e2⟩|⟨p1,p2,p3,p4,p5⟩
 ·exact absurd ⟨e2,e⟩ hm
 ·refine .inr ⟨p1,by omega,p3,p4,?_⟩
  intro j h1 h2;by_cases e:j=i
  ·subst e;omega
  ·exact p5 j h1 (by omega)
theorem Qm.done(h:Qm x a x.ks.length m l most)(hn:a<x.ks.length):Mid x a m:=by
 rcases h with⟨e,_⟩|⟨p1,p2,p3,p4,p5⟩
 ·omega
 ·exact⟨p1,p2,p4,p5⟩
theorem Ab(g:Good x)(i:Nat)(h:i<=x.ks.length):x.tot i<=13800:=by
 have a:=jy g i h;have b:=g.few;unfold Nd.tot;omega
theorem Ig(x:Nd)(i:Nat):(bs (x.item i)).size=x.sz i:=au _
theorem nY{l:Bool}{nk:Nat}{nv:Nat}{ni:Nat}(h:NV w l kp nk kc vp nv vc ip ni ic x)(g:Good x):
 Calls Tryz.prog 145 #[.agg #[.bool l,.slice kp nk kc,.slice vp nv vc,.slice ip ni ic]] w fun e w'=>e=.returned (.bool (decide (x.put.length<79)))/\Kept w w':=by
  have K0:Kept w (w.alloc (.cells #[.bool l,.slice kp nk kc,.slice vp nv vc,.slice ip ni ic] 121)):=(Kept.refl w).alloc _;have HP:=fB (h.kept K0) g;have hs:=au x.put;have e1:decide (((bs x.put).size:Int)<79)=decide (x.put.length<79):=by rw[hs];exact decide_eq_decide.2 (by omega)
  rw[<- e1];generalize bs x.put=s at *;clear hs e1 h;go_enter Tryz.func145,Tryz.ntmps145;go_wp2_with (first
    | (go_at_call 180
       (with_reducible refine HP.mono ?_)
       rintro e v1 ⟨rfl,k1⟩))
  go_ret;exact⟨rfl,K0.trans k1⟩
theorem Dv{nk:Nat}{nv:Nat}{ni:Nat}(h:NV w true kp nk kc vp nv vc ip ni ic x)(g:Good x)(hn:0<nk):
 Calls Tryz.prog 220 #[.agg #[.bool true,.slice kp nk kc,.slice vp nv vc,.slice ip ni ic]] w fun e w'=>∃ m:Nat,e=.returned (.int .i64 m)/\Mid x 0 m/\Kept w w':=by
  have hf:nk<=120:=by have:=g.few;have:=h.nk;omega
  have G:Hid _:=g;have HV:Hid _:=h;have HKL:Hid (x.ks.length=nk):=h.nk;have HTB:Hid (∀ i,i<=nk->x.tot i<=13800):=fun i hi=>Ab g i (by have:=h.nk;omega)
  have K0:Kept w (w.alloc (.cells #[.bool true,.slice kp nk kc,.slice vp nv vc,.slice ip ni ic] 121)):=(Kept.refl w).alloc _;have X0:=C4.alloc w 121 (.bool true) (.slice kp nk kc) (.slice vp nv vc) (.slice ip ni ic);clear h g;go_enter Tryz.func220,Tryz.ntmps220;go_wp2;go_loopg [4,14] nk (fun gg bv iv wx=>∃ i:Nat,bv=.int .i64 ((x.tot i:Nat):Int)/\iv=.int .i64 (i:Nat)/\Hid (gg=nk-i)/\i<=nk/\C4 wx w.heap.size 121 (.bool true) (.slice kp nk kc) (.slice vp nv vc) (.slice ip ni ic)/\Kept w wx);case atStart=>exact⟨0,rfl,rfl,rfl,aag _,X0,K0⟩
  case round=>
    obtain⟨i,rfl,rfl,hg,hin,X,K⟩:=hrel;obtain⟨b0,b1,b2,b3⟩:=X.cs;clear X0 K0;by_cases h1:i<nk
    · have h1':(i:Int)<(nk:Int):=by omega
      have HI:Hid (∀ W,Kept w W->Calls Tryz.prog 216 #[.agg #[.bool true,.slice kp nk kc,.slice vp nv vc,.slice ip ni ic],.int .i64 (i:Nat)] W fun e w'=>e=.returned (.string (bs (x.item i)))/\Kept W w'):=fun W hW=>lL (HV.out.kept hW) G.out i h1
      have HE:Hid (x.tot (i+1)=x.tot i+(bs (x.item i)).size):=by show _=_;rw[Ig,Nd.bA]
      have hle:=HTB.out (i+1) (by omega);rw[HE.out]at hle;generalize x.tot i=a at *;generalize bs (x.item i)=s at *;have u1:IntKind.i64.wrap ((a:Int)+(s.size:Int))=(a:Int)+(s.size:Int):=by rw[IntKind.wrap_i64];omega
      go_wp2_with (first
        | (go_at_call 216
           (with_reducible refine (HI.out _ K).mono ?_)
           rintro e v5 ⟨rfl,k5⟩))
      go_roundg (nk-(i+1));case measure=>rw[hg.out];omega
      case rel=>exact⟨i+1,by rw[HE.out];go_num,by go_num,rfl,by omega,X.kept k5,K.trans k5⟩
    · obtain rfl:nk=i:=by omega
      have h1':¬ ((nk:Int)<(nk:Int)):=by omega
      go_wp2;go_loopg [3,4,6,7,27] nk (fun gg av bv mv lv iv wx=>∃ (i a b m:Nat) (l:Int),av=.int .i64 a/\bv=.int .i64 b/\mv=.int .i64 m/\lv=.int .i64 l/\iv=.int .i64 (i:Nat)/\Hid (gg=nk-i)/\i<=nk/\Hid (a=x.tot i/\a+b=x.tot nk)/\Hid (Qm x 0 i m l 9223372036854775807)/\C4 wx w.heap.size 121 (.bool true) (.slice kp nk kc) (.slice vp nv vc) (.slice ip ni ic)/\Kept w wx);case atStart=>exact⟨0,0,x.tot nk,0,9223372036854775807,rfl,rfl,rfl,rfl,rfl,rfl,aag _,⟨rfl,aaj _⟩,.inl ⟨rfl,rfl,rfl⟩,X,K⟩
      case round=>
        obtain⟨i,a,b,m,l,rfl,rfl,rfl,rfl,rfl,hg,hin,HAB,HL,X,K⟩:=hrel;obtain⟨b0,b1,b2,b3⟩:=X.cs;by_cases h1:i<nk
        · have h1':(i:Int)<(nk:Int):=by omega
          have HI:Hid (∀ W,Kept w W->Calls Tryz.prog 216 #[.agg #[.bool true,.slice kp nk kc,.slice vp nv vc,.slice ip ni ic],.int .i64 (i:Nat)] W fun e w'=>e=.returned (.string (bs (x.item i)))/\Kept W w'):=fun W hW=>lL (HV.out.kept hW) G.out i h1
          have HZ:Hid ((bs (x.item i)).size=x.sz i):=Ig x i;have hle:a+b<=13800:=by rw[HAB.out.2];exact HTB.out nk (aac _)
          have hsb:(bs (x.item i)).size<=b:=by
            have q:=HAB.out;have q2:=x.qM (show i+1<=nk by omega);rw[Nd.bA,<- HZ.out]at q2;omega
          have HNX:Hid (a+(bs (x.item i)).size=x.tot (i+1)):=by
            have q:=HAB.out;show _=_;rw[Nd.bA,<- HZ.out];omega
          generalize bs (x.item i)=s at *;have HGR:Hid (((x.gr i:Nat):Int)=max (a:Int) (b:Int)):=by
            show _=_;rw[Nd.uC HV.out.hl,HKL.out]
            have q:=HAB.out;omega
          have u1:IntKind.i64.wrap ((a:Int)+(s.size:Int))=(a:Int)+(s.size:Int):=by rw[IntKind.wrap_i64];omega
          have u2:IntKind.i64.wrap ((b:Int)-(s.size:Int))=(b:Int)-(s.size:Int):=by rw[IntKind.wrap_i64];omega
          by_cases hlt:max (a:Int) (b:Int)<l
          · go_wp2_with (first
              | (go_at_call 216
                 (with_reducible refine (HI.out _ K).mono ?_)
                 rintro e v5 ⟨rfl,k5⟩
                 have X5:=X.kept k5
                 obtain⟨d0,d1,d2,d3⟩:=X5.cs))
            go_roundg (nk-(i+1))
            case measure=>rw[hg.out];omega
            case rel=>exact⟨i+1,a+s.size,b-s.size,i,max (a:Int) (b:Int),by go_num,by go_num,rfl,rfl,by go_num,rfl,by omega,⟨HNX.out,by have:=HAB.out;omega⟩,by rw[<- HGR.out];exact HL.out.less (aag _) (.inr (by rw[HGR.out];exact hlt)),X5,K.trans k5⟩
          · go_wp2_with (first
              | (go_at_call 216
                 (with_reducible refine (HI.out _ K).mono ?_)
                 rintro e v5 ⟨rfl,k5⟩
                 have X5:=X.kept k5
                 obtain⟨d0,d1,d2,d3⟩:=X5.cs))
            go_roundg (nk-(i+1))
            case measure=>rw[hg.out];omega
            case rel=>exact⟨i+1,a+s.size,b-s.size,m,l,by go_num,by go_num,rfl,rfl,by go_num,rfl,by omega,⟨HNX.out,by have:=HAB.out;omega⟩,HL.out.more (by rw[HGR.out];exact Int.not_lt.2 hlt) (by rintro⟨e1,_⟩;rw[e1]at hlt;omega),X5,K.trans k5⟩
        · obtain rfl:nk=i:=by omega
          have h1':¬ ((nk:Int)<(nk:Int)):=by omega
          go_wp2;go_ret;exact⟨m,rfl,by have q:=HL.out;rw[<- HKL.out]at q hn;exact q.done hn,K⟩
theorem BG{nk:Nat}{nv:Nat}{ni:Nat}(h:NV w false kp nk kc vp nv vc ip ni ic x)(g:Good x)(hn:0<nk):
 Calls Tryz.prog 220 #[.agg #[.bool false,.slice kp nk kc,.slice vp nv vc,.slice ip ni ic]] w fun e w'=>∃ m:Nat,e=.returned (.int .i64 m)/\Mid x 0 m/\Kept w w':=by
  have hf:nk<=120:=by have:=g.few;have:=h.nk;omega
  have G:Hid _:=g;have HV:Hid _:=h;have HKL:Hid (x.ks.length=nk):=h.nk;have HTB:Hid (∀ i,i<=nk->x.tot i<=13800):=fun i hi=>Ab g i (by have:=h.nk;omega)
  have K0:Kept w (w.alloc (.cells #[.bool false,.slice kp nk kc,.slice vp nv vc,.slice ip ni ic] 121)):=(Kept.refl w).alloc _;have X0:=C4.alloc w 121 (.bool false) (.slice kp nk kc) (.slice vp nv vc) (.slice ip ni ic);clear h g;go_enter Tryz.func220,Tryz.ntmps220;go_wp2;go_loopg [4,14] nk (fun gg bv iv wx=>∃ i:Nat,bv=.int .i64 ((x.tot i:Nat):Int)/\iv=.int .i64 (i:Nat)/\Hid (gg=nk-i)/\i<=nk/\C4 wx w.heap.size 121 (.bool false) (.slice kp nk kc) (.slice vp nv vc) (.slice ip ni ic)/\Kept w wx);case atStart=>exact⟨0,rfl,rfl,rfl,aag _,X0,K0⟩
  case round=>
    obtain⟨i,rfl,rfl,hg,hin,X,K⟩:=hrel;obtain⟨b0,b1,b2,b3⟩:=X.cs;clear X0 K0;by_cases h1:i<nk
    · have h1':(i:Int)<(nk:Int):=by omega
      have HI:Hid (∀ W,Kept w W->Calls Tryz.prog 216 #[.agg #[.bool false,.slice kp nk kc,.slice vp nv vc,.slice ip ni ic],.int .i64 (i:Nat)] W fun e w'=>e=.returned (.string (bs (x.item i)))/\Kept W w'):=fun W hW=>lL (HV.out.kept hW) G.out i h1
      have HE:Hid (x.tot (i+1)=x.tot i+(bs (x.item i)).size):=by show _=_;rw[Ig,Nd.bA]
      have hle:=HTB.out (i+1) (by omega);rw[HE.out]at hle;generalize x.tot i=a at *;generalize bs (x.item i)=s at *;have u1:IntKind.i64.wrap ((a:Int)+(s.size:Int))=(a:Int)+(s.size:Int):=by rw[IntKind.wrap_i64];omega
      go_wp2_with (first
        | (go_at_call 216
           (with_reducible refine (HI.out _ K).mono ?_)
           rintro e v5 ⟨rfl,k5⟩))
      go_roundg (nk-(i+1));case measure=>rw[hg.out];omega
      case rel=>exact⟨i+1,by rw[HE.out];go_num,by go_num,rfl,by omega,X.kept k5,K.trans k5⟩
    · obtain rfl:nk=i:=by omega
      have h1':¬ ((nk:Int)<(nk:Int)):=by omega
      go_wp2;go_loopg [3,4,6,7,27] nk (fun gg av bv mv lv iv wx=>∃ (i a b m:Nat) (l:Int),av=.int .i64 a/\bv=.int .i64 b/\mv=.int .i64 m/\lv=.int .i64 l/\iv=.int .i64 (i:Nat)/\Hid (gg=nk-i)/\i<=nk/\Hid (a=x.tot i/\a+b=x.tot nk)/\Hid (Qm x 0 i m l 9223372036854775807)/\C4 wx w.heap.size 121 (.bool false) (.slice kp nk kc) (.slice vp nv vc) (.slice ip ni ic)/\Kept w wx);case atStart=>exact⟨0,0,x.tot nk,0,9223372036854775807,rfl,rfl,rfl,rfl,rfl,rfl,aag _,⟨rfl,aaj _⟩,.inl ⟨rfl,rfl,rfl⟩,X,K⟩
      case round=>
        obtain⟨i,a,b,m,l,rfl,rfl,rfl,rfl,rfl,hg,hin,HAB,HL,X,K⟩:=hrel;obtain⟨b0,b1,b2,b3⟩:=X.cs;by_cases h1:i<nk
        · have h1':(i:Int)<(nk:Int):=by omega
          have HI:Hid (∀ W,Kept w W->Calls Tryz.prog 216 #[.agg #[.bool false,.slice kp nk kc,.slice vp nv vc,.slice ip ni ic],.int .i64 (i:Nat)] W fun e w'=>e=.returned (.string (bs (x.item i)))/\Kept W w'):=fun W hW=>lL (HV.out.kept hW) G.out i h1
          have HZ:Hid ((bs (x.item i)).size=x.sz i):=Ig x i;have hle:a+b<=13800:=by rw[HAB.out.2];exact HTB.out nk (aac _)
          have hsb:(bs (x.item i)).size<=b:=by
            have q:=HAB.out;have q2:=x.qM (show i+1<=nk by omega);rw[Nd.bA,<- HZ.out]at q2;omega
          have HNX:Hid (a+(bs (x.item i)).size=x.tot (i+1)):=by
            have q:=HAB.out;show _=_;rw[Nd.bA,<- HZ.out];omega
          generalize bs (x.item i)=s at *;have HGR:Hid (((x.gr i:Nat):Int)=max (a:Int) ((b:Int)-(s.size:Int))):=by
            show _=_;rw[Nd.jA HV.out.hl,HKL.out];rw[Nd.bA,<- HZ.out];have q:=HAB.out;omega
          have u1:IntKind.i64.wrap ((a:Int)+(s.size:Int))=(a:Int)+(s.size:Int):=by rw[IntKind.wrap_i64];omega
          have u2:IntKind.i64.wrap ((b:Int)-(s.size:Int))=(b:Int)-(s.size:Int):=by rw[IntKind.wrap_i64];omega
          by_cases hlt:max (a:Int) ((b:Int)-(s.size:Int))<l
          · go_wp2_with (first
              | (go_at_call 216
                 (with_reducible refine (HI.out _ K).mono ?_)
                 rintro e v5 ⟨rfl,k5⟩
                 have X5:=X.kept k5
                 obtain⟨d0,d1,d2,d3⟩:=X5.cs))
            go_roundg (nk-(i+1))
            case measure=>rw[hg.out];omega
            case rel=>exact⟨i+1,a+s.size,b-s.size,i,max (a:Int) ((b:Int)-(s.size:Int)),by go_num,by go_num,rfl,rfl,by go_num,rfl,by omega,⟨HNX.out,by have:=HAB.out;omega⟩,by rw[<- HGR.out];exact HL.out.less (aag _) (.inr (by rw[HGR.out];exact hlt)),X5,K.trans k5⟩
          · go_wp2_with (first
              | (go_at_call 216
                 (with_reducible refine (HI.out _ K).mono ?_)
                 rintro e v5 ⟨rfl,k5⟩
                 have X5:=X.kept k5
                 obtain⟨d0,d1,d2,d3⟩:=X5.cs))
            go_roundg (nk-(i+1))
            case measure=>rw[hg.out];omega
            case rel=>exact⟨i+1,a+s.size,b-s.size,m,l,by go_num,by go_num,rfl,rfl,by go_num,rfl,by omega,⟨HNX.out,by have:=HAB.out;omega⟩,HL.out.more (by rw[HGR.out];exact Int.not_lt.2 hlt) (by rintro⟨e1,_⟩;rw[e1]at hlt;omega),X5,K.trans k5⟩
        · obtain rfl:nk=i:=by omega
          have h1':¬ ((nk:Int)<(nk:Int)):=by omega
          go_wp2;go_ret;exact⟨m,rfl,by have q:=HL.out;rw[<- HKL.out]at q hn;exact q.done hn,K⟩
theorem wF{l:Bool}{nk:Nat}{nv:Nat}{ni:Nat}(h:NV w l kp nk kc vp nv vc ip ni ic x)(g:Good x)(hn:0<nk):
 Calls Tryz.prog 220 #[.agg #[.bool l,.slice kp nk kc,.slice vp nv vc,.slice ip ni ic]] w fun e w'=>∃ m:Nat,e=.returned (.int .i64 m)/\Mid x 0 m/\Kept w w':=by
 cases l with
 | true=>exact Dv h g hn
 | false=>exact BG h g hn
theorem jB:x.put.length=x.head.length+x.tot x.ks.length:=by
 unfold Nd.put Nd.tot;rw[aah]
theorem nZ(g:Good x)(h:237<x.put.length):3<=x.ks.length:=by
 rw[jB]at h;have a:=ky g;have b:=jy g x.ks.length (aac _);unfold Nd.tot at h;omega
