/- Joined. -/
import Derived.Test.YtifeihnhkbagpaaGreatDoorZbc
set_option maxHeartbeats 4000000
set_option maxRecDepth 100000
namespace Go.Proofs.YtifeihnhkbagpaaGreatDoor.N
open ChangeShapes WideShapes ChangeAt RowKit
def Nd.tail (x:Nd):Nat->Nat->List Nat
 | _,0=>[]
 | i,k+1=>x.item i++x.tail (i+1) k
theorem sH(x:Nd):∀ k i,x.items i++x.tail i k=x.items (i+k)
 | 0,i=>by simp[Nd.tail]
 | k+1,i=>by
  rw[Nd.tail,<- aap,show x.items i++x.item i=x.items (i+1) from rfl,sH x k (i+1)];congr 1;omega
theorem kI{x:Nd}(g:Good x):∀ k i,i+k<=x.ks.length->(x.tail i k).length<=k*115
 | 0,i,_=>by simp[Nd.tail]
 | k+1,i,h=>by
  have a:=kI g k (i+1) (by omega);have b:=ku g i (by omega);rw[Nd.tail,aah];omega
theorem rz(w:World)(u:Value)(t:TypeId):∀ (j:Nat) (v:Value),[u][j]? = some v->(w.alloc (.cells #[u] t)).cell? ((⟨w.heap.size,0,none⟩:Addr).add j)=some v:=one_cell w u t
theorem BV(w:World)(a b c:Value)(t:TypeId):∀ (j:Nat) (v:Value),[a,b,c][j]? = some v->(w.alloc (.cells #[a,b,c] t)).cell? ((⟨w.heap.size,0,none⟩:Addr).add j)=some v:=Du w a b c t
variable {ks:List ByteArray}{i:Nat}
theorem DR{k:ByteArray}(h:ks[i]? = some k):dA (ks.take (i+1))=dA (ks.take i)++[.string k]:=by
 rw[aaP,h,FC];rfl
variable {is:List Int}
theorem DT{k:Int}(h:is[i]? = some k):aO (is.take (i+1))=aO (is.take i)++[.int .i64 k]:=by
 rw[aaP,h,FD];rfl
structure RS (w wx:World) (b:Nat) (l:Bool) (kp:Option Addr) (nk kc:Nat) (ks:List ByteArray) (vp:Option Addr) (nv vc:Nat) (vs:List Vl) (ip:Option Addr) (ni ic:Nat) (is:List Int) (rest:List Nat):Prop where
 R:C4 wx w.heap.size 121 (.bool false) (.slice none 0 0) (.slice none 0 0) (.slice none 0 0)
 X:C4 wx (w.heap.size+1) 121 (.bool l) (.slice kp nk kc) (.slice vp nv vc) (.slice ip ni ic)
 K:Own wx (w.heap.size+1+1) 9 1 kp nk kc (dA ks)
 V:Own wx (w.heap.size+1+1) 77 3 vp nv vc (dQ vs)
 I:Own wx (w.heap.size+1+1) 3 1 ip ni ic (aO is)
 r:Rd wx b (bs rest) 0
 o:Og b w wx
 hb:b<w.heap.size
variable {w wx W:World}{b nk kc nv vc ni ic:Nat}{l:Bool}{kp vp ip:Option Addr}{vs:List Vl}{rest:List Nat}
theorem RS.call{rest':List Nat}(s:RS w wx b l kp nk kc ks vp nv vc vs ip ni ic is rest)(o:Og b wx W)(r:Rd W b (bs rest') 0):RS w W b l kp nk kc ks vp nv vc vs ip ni ic is rest':=
 have h:=s.hb
 ⟨s.R.og o (by omega),s.X.og o (by omega),o.own s.K (by omega),o.own s.V (by omega),o.own s.I (by omega),r,s.o.trans o,s.hb⟩
theorem RS.kept(s:RS w wx b l kp nk kc ks vp nv vc vs ip ni ic is rest)(k:Kept wx W):RS w W b l kp nk kc ks vp nv vc vs ip ni ic is rest:=s.call (k.og b) (k.rd s.r)
theorem af{P:Program}{fn:Func}{p u:Tmp}{ty:TypeId}(h:fn.results=#[.cell p ty,.tmp u])(tmps:Array Value)(w:World)(g:Nat)(t:TypeId)(cs:Array Value)(fr:Nat×Nat)(d:TypeDesc)(hp:tmps.getD p undef=.pointer (some ⟨g,0,none⟩))(hg:w.heap[g]? = some (.cells cs t fr))(hu:P.underlying ty=some d)(hd:(match d with | .struct _ | .array _ _=>true | _=>false)=true)(hi:(P.info? ty).map (·.size)=some cs.size) :
    (results fn tmps).run P w=.ok (.tuple #[.agg cs,tmps.getD u undef]) w:=by
  rw[results_cell_tmp h,hp];simp[asAddr,run_loadVar_row w g t ty cs fr d hg hu hd hi]
theorem Rd.far{s:ByteArray}{e:Int}(k:Rd w b s e)(a:Addr)(v:Value)(h:b≠a.block):Rd (w.setCell a v) b s e:=⟨(heap_setCell_other w a b v h).trans k.out⟩
theorem RS.Xn(s:RS w wx b l kp nk kc ks vp nv vc vs ip ni ic is rest)(g:wx.grownBy W (blk kp)){q:Option Addr}{m c:Nat}{zs:List ByteArray}(o:Own W (w.heap.size+1+1) 9 1 q m c (dA zs)) :
  C4 W (w.heap.size+1) 121 (.bool l) (.slice kp nk kc) (.slice vp nv vc) (.slice ip ni ic)/\RS w (W.setCell ⟨w.heap.size+1,1,none⟩ (.slice q m c)) b l q m c zs vp nv vc vs ip ni ic is rest:=by
 have hb:=s.hb;have x1:=s.X.grown g (s.X.own_ne s.K (by decide));have own:some b≠blk kp:=s.K.jw (.inl (by omega));have Ou:some w.heap.size≠blk kp:=s.K.jw (.inl (by omega));have r1:Rd W b (bs rest) 0:=⟨(g.block b s.r.lt own).trans s.r.out⟩;refine⟨x1,(s.R.grown g Ou).far _ _ (by show w.heap.size≠w.heap.size+1;omega),x1.set1 _,o.yC ⟨w.heap.size+1,1,none⟩ _ (x1.own_ne o (by decide)),(s.V.grown s.K (by decide) g).yC ⟨w.heap.size+1,1,none⟩ _ (x1.own_ne (s.V.grown s.K (by decide) g) (by decide)),(s.I.grown s.K (by decide) g).yC ⟨w.heap.size+1,1,none⟩ _ (x1.own_ne (s.I.grown s.K (by decide) g) (by decide)),r1.far ⟨w.heap.size+1,1,none⟩ _ (by show b≠w.heap.size+1;omega),?_,hb⟩;have os:=s.o.out;refine⟨g.os.trans os.os,g.tape.trans os.tape,g.output.trans os.output,by rw[size_set];exact aad os.size g.size,fun i hi hne=>?_⟩;rw[heap_setCell_other _ _ _ _ (by show i≠w.heap.size+1;omega),g.block i (aas hi os.size) (s.K.jw (.inl (by omega)))];exact os.block i hi hne
theorem RS.ZT(s:RS w wx b l kp nk kc ks vp nv vc vs ip ni ic is rest)(g:wx.grownBy W (blk vp)){q:Option Addr}{m c:Nat}{zs:List Vl}(o:Own W (w.heap.size+1+1) 77 3 q m c (dQ zs)) :
  C4 W (w.heap.size+1) 121 (.bool l) (.slice kp nk kc) (.slice vp nv vc) (.slice ip ni ic)/\RS w (W.setCell ⟨w.heap.size+1,2,none⟩ (.slice q m c)) b l kp nk kc ks q m c zs ip ni ic is rest:=by
 have hb:=s.hb;have x1:=s.X.grown g (s.X.own_ne s.V (by decide));have own:some b≠blk vp:=s.V.jw (.inl (by omega));have Ou:some w.heap.size≠blk vp:=s.V.jw (.inl (by omega));have r1:Rd W b (bs rest) 0:=⟨(g.block b s.r.lt own).trans s.r.out⟩;refine⟨x1,(s.R.grown g Ou).far _ _ (by show w.heap.size≠w.heap.size+1;omega),x1.set2 _,(s.K.grown s.V (by decide) g).yC ⟨w.heap.size+1,2,none⟩ _ (x1.own_ne (s.K.grown s.V (by decide) g) (by decide)),o.yC ⟨w.heap.size+1,2,none⟩ _ (x1.own_ne o (by decide)),(s.I.grown s.V (by decide) g).yC ⟨w.heap.size+1,2,none⟩ _ (x1.own_ne (s.I.grown s.V (by decide) g) (by decide)),r1.far ⟨w.heap.size+1,2,none⟩ _ (by show b≠w.heap.size+1;omega),?_,hb⟩;have os:=s.o.out;refine⟨g.os.trans os.os,g.tape.trans os.tape,g.output.trans os.output,by rw[size_set];exact aad os.size g.size,fun i hi hne=>?_⟩;rw[heap_setCell_other _ _ _ _ (by show i≠w.heap.size+1;omega),g.block i (aas hi os.size) (s.V.jw (.inl (by omega)))];exact os.block i hi hne
theorem RS.Xo(s:RS w wx b l kp nk kc ks vp nv vc vs ip ni ic is rest)(g:wx.grownBy W (blk ip)){q:Option Addr}{m c:Nat}{zs:List Int}(o:Own W (w.heap.size+1+1) 3 1 q m c (aO zs)) :
  C4 W (w.heap.size+1) 121 (.bool l) (.slice kp nk kc) (.slice vp nv vc) (.slice ip ni ic)/\RS w (W.setCell ⟨w.heap.size+1,3,none⟩ (.slice q m c)) b l kp nk kc ks vp nv vc vs q m c zs rest:=by
 have hb:=s.hb;have x1:=s.X.grown g (s.X.own_ne s.I (by decide));have own:some b≠blk ip:=s.I.jw (.inl (by omega));have Ou:some w.heap.size≠blk ip:=s.I.jw (.inl (by omega));have r1:Rd W b (bs rest) 0:=⟨(g.block b s.r.lt own).trans s.r.out⟩;refine⟨x1,(s.R.grown g Ou).far _ _ (by show w.heap.size≠w.heap.size+1;omega),x1.ui _,(s.K.grown s.I (by decide) g).yC ⟨w.heap.size+1,3,none⟩ _ (x1.own_ne (s.K.grown s.I (by decide) g) (by decide)),(s.V.grown s.I (by decide) g).yC ⟨w.heap.size+1,3,none⟩ _ (x1.own_ne (s.V.grown s.I (by decide) g) (by decide)),o.yC ⟨w.heap.size+1,3,none⟩ _ (x1.own_ne o (by decide)),r1.far ⟨w.heap.size+1,3,none⟩ _ (by show b≠w.heap.size+1;omega),?_,hb⟩;have os:=s.o.out;refine⟨g.os.trans os.os,g.tape.trans os.tape,g.output.trans os.output,by rw[size_set];exact aad os.size g.size,fun i hi hne=>?_⟩;rw[heap_setCell_other _ _ _ _ (by show i≠w.heap.size+1;omega),g.block i (aas hi os.size) (s.I.jw (.inl (by omega)))];exact os.block i hi hne
variable {x:Nd}
theorem KS(hr:Rd w b (bs x.put) 0)(g:Good x)(hl:x.leaf=true)(SV:x.ks.length<=120):
 Calls Tryz.prog 167 #[.pointer (some ⟨b,0,none⟩),.bool true] w fun e w'=>∃ kp nk kc vp nv vc ip ni ic,e=.returned (.tuple #[.agg #[.bool true,.slice kp nk kc,.slice vp nv vc,.slice ip ni ic],.int .i64 0])/\NV w' true kp nk kc vp nv vc ip ni ic x/\Og b w w'/\Nw w.heap.size ip:=by
  obtain⟨i9,hi9,hz90,hz91,hz92⟩:=info_parts lX;obtain⟨i49,ZU,Xp,Xq,Xr⟩:=info_parts sj;have hf:=SV;have hbl:=hr.lt;obtain⟨nk,hnk⟩:∃ nk,x.ks.length=nk:=⟨_,rfl⟩;rw[hnk]at hf;have hvl:x.vs.length=nk:=by rw[(g.lv hl).1,hnk]
  have hput:x.put=ae nk++x.tail 0 nk:=by
    have a:=sH x nk 0;rw[aaj]at a;unfold Nd.put Nd.head;rw[hnk,aao hl,<- a];simp[Nd.items]
  rw[hput]at hr;have htl:=kI g nk 0 (by omega);have HTL:Hid (∀ k i,i+k<=nk->(x.tail i k).length<=k*115):=fun k i h=>kI g k i (by omega)
  have HKL:Hid (x.ks.length=nk):=hnk;have HVL:Hid (x.vs.length=nk):=hvl;have G:Hid _:=g;have HLF:Hid (x.leaf=true):=hl;obtain⟨oA,GZ⟩:∃ o:Obj,o=.cells #[.bool false,.slice none 0 0,.slice none 0 0,.slice none 0 0] 121:=⟨_,rfl⟩;obtain⟨oB,Nr⟩:∃ o:Obj,o=.cells #[.bool true,.slice none 0 0,.slice none 0 0,.slice none 0 0] 121:=⟨_,rfl⟩;have K0:Kept w ((w.alloc oA).alloc oB):=((Kept.refl w).alloc _).alloc _;have s0:RS w ((w.alloc oA).alloc oB) b true none 0 0 [] none 0 0 [] none 0 0 [] (ae nk++x.tail 0 nk):=by
    refine⟨?_,?_,⟨World.ownsRow_nil _ _ _ _⟩,⟨World.ownsRow_nil _ _ _ _⟩,⟨World.ownsRow_nil _ _ _ _⟩,K0.rd hr,K0.og b,hbl⟩
    · subst GZ;exact (C4.alloc w 121 _ _ _ _).kept ((Kept.refl _).alloc _)
    · subst Nr;rw[<- size_alloc w oA];exact C4.alloc _ 121 _ _ _ _
  have A1:=rO nk (by omega) (x.tail 0 nk) (by omega) 237 (by omega) s0.r;have A1:Calls Tryz.prog 171 #[.pointer (some ⟨b,0,none⟩),.int .u64 237] ((w.alloc oA).alloc oB) fun e w'=>e=.returned (.int .u64 (nk:Nat))/\Rd w' b (bs (x.tail 0 nk)) 0/\Og b ((w.alloc oA).alloc oB) w':=A1
  subst GZ;subst Nr;clear hr g hput htl K0 hnk hvl hl;go_enter Tryz.func167,Tryz.ntmps167;go_wp2_with (first
    | (go_at_call 171
       (with_reducible refine A1.mono ?_)
       rintro e v1 ⟨rfl,r1,o1⟩
       have s1:=s0.call o1 r1
       clear A1 s0 r1 o1))
  go_loopg [23] nk (fun gg v wx=>∃ (i:Nat) (kp:Option Addr) (kc:Nat) (vp:Option Addr) (vc:Nat),v=.int .u64 (i:Nat)/\Hid (gg=nk-i)/\i<=nk/\RS w wx b true kp i kc (x.ks.take i) vp i vc (x.vs.take i) none 0 0 [] (x.tail i (nk-i)));case atStart=>exact⟨0,_,_,_,_,rfl,rfl,aag _,s1⟩
  case round=>
    obtain⟨i,kp,kc,vp,vc,rfl,hg,hin,s⟩:=hrel;clear s1;by_cases h1:i<nk
    · have h1':(i:Int)<(nk:Int):=by omega
      obtain⟨k,hk⟩:∃ k,x.ks[i]? = some k:=⟨_,aae (by rw[HKL.out];exact h1)⟩;obtain⟨v,hv⟩:∃ v,x.vs[i]? = some v:=⟨_,aae (by rw[HVL.out];exact h1)⟩;have HK:Hid (x.ks[i]? = some k):=hk;have HV:Hid (x.vs[i]? = some v):=hv;have hks:=G.out.small k (aak hk);have hov:=G.out.ok v (aak hv);have et:x.tail i (nk-i)=dW k++(ll v++x.tail (i+1) (nk-(i+1))):=by
        rw[show nk-i=(nk-(i+1))+1 by omega,Nd.tail];unfold Nd.item;rw[hk,hv,aao HLF.out,aap];rfl
      have z1:=HTL.out (nk-(i+1)) (i+1) (by omega);have z2:=kg v hov;rw[et]at s;have s':=s.kept (Kept.refl wr).drew;have A2:=Xj k hks (ll v++x.tail (i+1) (nk-(i+1))) (by rw[aah];omega) s'.r;have Xt:Hid (∀ W,Rd W b (bs (ll v++x.tail (i+1) (nk-(i+1)))) 0->Calls Tryz.prog 209 #[.pointer (some ⟨b,0,none⟩)] W fun e w'=>e=.returned (.agg #[.string v.d,.int .i64 v.p,.int .i64 v.l])/\Rd w' b (bs (x.tail (i+1) (nk-(i+1)))) 0/\Og b W w'):=fun W h=>FQ v hov _ (by omega) h
      obtain⟨c0,c1,c2,c3⟩:=s'.X.cs;clear hk hv et z1 z2 hks;go_wp2_with fail;go_region_law (first
        | (go_simp
           go_at_call 208
           (with_reducible refine A2.mono ?_)
           rintro e v1 ⟨rfl,r1,o1⟩
           have s1:=s'.call o1 r1
           obtain⟨d0,d1,d2,d3⟩:=s1.X.cs
           have d1':=fun o=>(s1.X.kept ((Kept.refl v1).alloc o)).cs.2.1
           have sA:=s1.kept ((Kept.refl v1).alloc (.cells #[.string k] 9))
           have hn1:=rz v1 (.string k) 9
           have dV:∀ u∈[Value.string k],u.oneCell'=true:=(by intro u hu;simp at hu;subst hu;rfl)
           have rV:w.heap.size+1+1<=(v1.alloc (.cells #[.string k] 9)).heap.size:=(by have:=sA.X.lt;omega)
           clear A2
           go_wp2_with fail)
        | (refine step_append_lies _ (by rfl) _ _ _ (by rfl) (w.heap.size+1+1) 9 i9 _ 1 16 Tryz.underlying49 hi9 hz90 hz91 hz92 (by rfl) (by decide) (.slice kp i kc) i (dA (x.ks.take i)) (by rfl) sA.K.out ⟨v1.heap.size,0,none⟩ 1 1 [.string k] (by rfl) (by rfl) hn1 dV (by decide) (by unfold maxLen;omega) (by omega) rV _ rfl ?_
           intro g3 CG w3 ho3 hg3 _ _
           rw[ob]at hg3
           obtain⟨X3,s3⟩:=sA.Xn hg3 (q:=some ⟨g3,0,none⟩) (m:=i+1) (c:=CG) (zs:=x.ks.take (i+1)) ⟨by rw[DR HK.out];exact ho3⟩
           have QY:=X3.cs.2.1
           have f33:=X3.fz 1))
      all_goals
        clear X3 QY f33 hg3 ho3 sA hn1 dV rV s1 d0 d1 d2 d3 d1' o1 r1 s' c0 c1 c2 c3 s
        generalize hW3:w3.setCell ⟨w.heap.size+1,1,none⟩ (.slice (some ⟨g3,0,none⟩) (i+1) CG)=W3 at *
        clear hW3
        have s':=s3.kept (Kept.refl W3).drew
        clear s3
        have A3:=Xt.out _ s'.r
        obtain⟨c0,c1,c2,c3⟩:=s'.X.cs
        clear Xt
        go_wp2_with fail
        go_region_law (first
          | (go_simp
             go_at_call 209
             (with_reducible refine A3.mono ?_)
             rintro e v5 ⟨rfl,r5,o5⟩
             have s5:=s'.call o5 r5
             obtain⟨d0,d1,d2,d3⟩:=s5.X.cs
             have d2':=fun o=>(s5.X.kept ((Kept.refl v5).alloc o)).cs.2.2.1
             have sA:=s5.kept ((Kept.refl v5).alloc (.cells #[.string v.d,.int .i64 v.p,.int .i64 v.l] 77))
             have hn1:=BV v5 (.string v.d) (.int .i64 v.p) (.int .i64 v.l) 77
             have dV:∀ u∈[Value.string v.d,Value.int .i64 v.p,Value.int .i64 v.l],u.oneCell'=true:=Vl.one v
             have rV:w.heap.size+1+1<=(v5.alloc (.cells #[.string v.d,.int .i64 v.p,.int .i64 v.l] 77)).heap.size:=(by have:=sA.X.lt;omega)
             clear A3
             go_wp2_with fail)
          | (refine step_append_lies _ (by rfl) _ _ _ (by rfl) (w.heap.size+1+1) 77 i49 _ 3 32 Tryz.underlying119 ZU Xp Xq Xr (by rfl) (by decide) (.slice vp i vc) i (dQ (x.vs.take i)) (by rfl) sA.V.out ⟨v5.heap.size,0,none⟩ 1 1 [.string v.d,.int .i64 v.p,.int .i64 v.l] (by rfl) (by rfl) hn1 dV (by decide) (by unfold maxLen;omega) (by omega) rV _ rfl ?_
             intro g6 cap6 w6 Ub Ov _ _
             rw[ob]at Ov
             obtain⟨X6,s6⟩:=sA.ZT Ov (q:=some ⟨g6,0,none⟩) (m:=i+1) (c:=cap6) (zs:=x.vs.take (i+1)) ⟨by rw[Nu HV.out];exact Ub⟩
             have Xu:=X6.cs.2.2.1
             have f66:=X6.fz 2))
        all_goals
          clear X6 Xu f66 Ov Ub sA hn1 dV rV s5 d0 d1 d2 d3 d2' o5 r5 s' c0 c1 c2 c3
          generalize Xv:w6.setCell ⟨w.heap.size+1,2,none⟩ (.slice (some ⟨g6,0,none⟩) (i+1) cap6)=W6 at *
          clear Xv
          go_wp2
          go_roundg (nk-(i+1))
          case measure=>rw[hg.out];omega
          case rel=>exact⟨i+1,_,CG,_,cap6,by go_num,rfl,by omega,s6⟩
    · obtain rfl:nk=i:=by omega
      have h1':¬ ((nk:Int)<(nk:Int)):=by omega
      rw[Nat.sub_self,aaz (by rw[HKL.out];exact aac _),aaz (by rw[HVL.out];exact aac _)]at s;have s':=s.kept (Kept.refl wr).drew;have AE:=nV (x:=0) s'.r;obtain⟨c0,c1,c2,c3⟩:=s'.X.cs;obtain⟨⟨g0,f0⟩,⟨g1,f1⟩,⟨g2,f2⟩,⟨g3,f3⟩,hfin⟩:=aD s.R.out (.bool true) (.slice kp nk kc) (.slice vp nk vc) (.slice none 0 0);go_wp2_with fail;go_region_with (first
        | (go_at_call 210
           (with_reducible refine AE.mono ?_)
           rintro e v8 ⟨rfl,Xw⟩
           rw[Xw]
           clear Xw))
      all_goals
        have q1:=(s.K.mono (Nat.le_succ _)).bS (b:=w.heap.size) (aaK _) (.bool true) (.slice kp nk kc) (.slice vp nk vc) (.slice none 0 0)
        have q2:=(s.V.mono (Nat.le_succ _)).bS (b:=w.heap.size) (aaK _) (.bool true) (.slice kp nk kc) (.slice vp nk vc) (.slice none 0 0)
        have q3:Og b w ((((wr.setCell ⟨w.heap.size,0,none⟩ (.bool true)).setCell ⟨w.heap.size,1,none⟩ (.slice kp nk kc)).setCell ⟨w.heap.size,2,none⟩ (.slice vp nk vc)).setCell ⟨w.heap.size,3,none⟩ (.slice none 0 0)):=by
          have os:=s.o.out;refine⟨os.os,os.tape,os.output,by rw[size_set,size_set,size_set,size_set];exact os.size,fun j hj hne=>?_⟩;rw[aG wr (by omega) _ _ _ _];exact os.block j hj hne
        generalize hW:((((wr.setCell ⟨w.heap.size,0,none⟩ (.bool true)).setCell ⟨w.heap.size,1,none⟩ (.slice kp nk kc)).setCell ⟨w.heap.size,2,none⟩ (.slice vp nk vc)).setCell ⟨w.heap.size,3,none⟩ (.slice none 0 0))=WF at hfin q1 q2 q3 ⊢
        go_wp2
        refine bodyPost_ret (v:=.tuple #[.agg #[.bool true,.slice kp nk kc,.slice vp nk vc,.slice none 0 0],.int .i64 0]) ?_ rfl ⟨_,_,_,_,_,_,_,_,_,rfl,⟨HLF.out,((q1.kept (Kept.refl WF).drew)).rw,((q2.kept (Kept.refl WF).drew)).rw,?_,((q1.kept (Kept.refl WF).drew)).rx,((q2.kept (Kept.refl WF).drew)).rx,Rx.none _ _⟩,q3.trans ((Kept.refl WF).drew.og b),fun _ _ _ e=>by cases e⟩
        · exact af (p:=4) (u:=5) (ty:=121) rfl _ _ w.heap.size 121 #[.bool true,.slice kp nk kc,.slice vp nk vc,.slice none 0 0] (0,0) _ rfl hfin Tryz.underlying121 rfl aN
        · rw[(G.out.lv HLF.out).2]
          exact⟨rfl,aac _,aag _,.inl ⟨rfl,rfl⟩⟩
theorem Gb(hr:Rd w b (bs x.put) 0)(g:Good x)(hl:x.leaf=false)(SV:x.ks.length<=120):
 Calls Tryz.prog 167 #[.pointer (some ⟨b,0,none⟩),.bool false] w fun e w'=>∃ kp nk kc vp nv vc ip ni ic,e=.returned (.tuple #[.agg #[.bool false,.slice kp nk kc,.slice vp nv vc,.slice ip ni ic],.int .i64 0])/\NV w' false kp nk kc vp nv vc ip ni ic x/\Og b w w'/\Nw w.heap.size ip:=by
  obtain⟨i9,hi9,hz90,hz91,hz92⟩:=info_parts lX;obtain⟨i3,hi3,sI,sJ,hz32⟩:=info_parts info3;have hf:=SV;have hbl:=hr.lt;obtain⟨nk,hnk⟩:∃ nk,x.ks.length=nk:=⟨_,rfl⟩;rw[hnk]at hf;have hvl:x.is.length=nk+1:=by rw[(g.li hl).1,hnk]
  obtain⟨q0,hq0⟩:∃ v,x.is[0]? = some v:=⟨_,aae (by omega)⟩;obtain⟨q,rfl,hq⟩:=g.ik q0 (aak hq0);have ZC:Hid (x.is[0]? = some (q:Int)):=hq0;have zq:=aP q (by omega);have uq:IntKind.i64.wrap (q:Int)=(q:Int):=by rw[IntKind.wrap_i64];omega
  have hput:x.put=ae nk++(ae q++x.tail 0 nk):=by
    have a:=sH x nk 0;rw[aaj]at a;unfold Nd.put Nd.head;rw[hnk,aai (by rw[hl];decide),hq0,<- a];simp[Nd.items]
  rw[hput]at hr;have htl:=kI g nk 0 (by omega);have HTL:Hid (∀ k i,i+k<=nk->(x.tail i k).length<=k*115):=fun k i h=>kI g k i (by omega)
  have HKL:Hid (x.ks.length=nk):=hnk;have HVL:Hid (x.is.length=nk+1):=hvl;have G:Hid _:=g;have HLF:Hid (x.leaf=false):=hl;obtain⟨oA,GZ⟩:∃ o:Obj,o=.cells #[.bool false,.slice none 0 0,.slice none 0 0,.slice none 0 0] 121:=⟨_,rfl⟩;obtain⟨oB,Nr⟩:∃ o:Obj,o=.cells #[.bool false,.slice none 0 0,.slice none 0 0,.slice none 0 0] 121:=⟨_,rfl⟩;have K0:Kept w ((w.alloc oA).alloc oB):=((Kept.refl w).alloc _).alloc _;have s0:RS w ((w.alloc oA).alloc oB) b false none 0 0 [] none 0 0 [] none 0 0 [] (ae nk++(ae q++x.tail 0 nk)):=by
    refine⟨?_,?_,⟨World.ownsRow_nil _ _ _ _⟩,⟨World.ownsRow_nil _ _ _ _⟩,⟨World.ownsRow_nil _ _ _ _⟩,K0.rd hr,K0.og b,hbl⟩
    · subst GZ;exact (C4.alloc w 121 _ _ _ _).kept ((Kept.refl _).alloc _)
    · subst Nr;rw[<- size_alloc w oA];exact C4.alloc _ 121 _ _ _ _
  have A1:=rO nk (by omega) (ae q++x.tail 0 nk) (by rw[aah];omega) 237 (by omega) s0.r;have A1:Calls Tryz.prog 171 #[.pointer (some ⟨b,0,none⟩),.int .u64 237] ((w.alloc oA).alloc oB) fun e w'=>e=.returned (.int .u64 (nk:Nat))/\Rd w' b (bs (ae q++x.tail 0 nk)) 0/\Og b ((w.alloc oA).alloc oB) w':=A1
  have HAQ:Hid (∀ W,Rd W b (bs (ae q++x.tail 0 nk)) 0->Calls Tryz.prog 171 #[.pointer (some ⟨b,0,none⟩),.int .u64 16383] W fun e w'=>e=.returned (.int .u64 q)/\Rd w' b (bs (x.tail 0 nk)) 0/\Og b W w'):=fun W h=>rO q (by omega) (x.tail 0 nk) (by omega) 16383 (by omega) h
  subst GZ;subst Nr;clear hr g hput htl K0 hnk hvl hl hq0 zq;go_enter Tryz.func167,Tryz.ntmps167;go_wp2_with (first
    | (go_at_call 171
       (with_reducible refine A1.mono ?_)
       rintro e v1 ⟨rfl,r1,o1⟩
       have s1:=s0.call o1 r1
       clear A1 s0 r1 o1))
  have s':=s1.kept (Kept.refl v1).drew;have AQ:=HAQ.out _ s'.r;obtain⟨c0,c1,c2,c3⟩:=s'.X.cs;clear HAQ s1;go_region_law (first
    | (go_simp
       go_at_call 171
       (with_reducible refine AQ.mono ?_)
       rintro e v5 ⟨rfl,r5,o5⟩
       have s5:=s'.call o5 r5
       obtain⟨d0,d1,d2,d3⟩:=s5.X.cs
       have ZV:=fun o=>(s5.X.kept ((Kept.refl v5).alloc o)).cs.2.2.2
       have sA:=s5.kept ((Kept.refl v5).alloc (.cells #[.int .i64 q] 3))
       have hn1:=rz v5 (.int .i64 q) 3
       have dV:∀ u∈[Value.int .i64 q],u.oneCell'=true:=one_one .i64 _
       have rV:w.heap.size+1+1<=(v5.alloc (.cells #[.int .i64 q] 3)).heap.size:=(by have:=sA.X.lt;omega)
       clear AQ
       go_wp2_with fail)
    | (refine step_append_lies _ (by rfl) _ _ _ (by rfl) (w.heap.size+1+1) 3 i3 _ 1 8 Tryz.underlying94 hi3 sI sJ hz32 (by rfl) (by decide) (.slice none 0 0) 0 (aO []) (by rfl) sA.I.out ⟨v5.heap.size,0,none⟩ 1 1 [.int .i64 q] (by rfl) (by rfl) hn1 dV (by decide) (by decide) (by decide) rV _ rfl ?_
       intro g6 cap6 w6 Ub Ov _ _
       rw[ob]at Ov
       obtain⟨X6,s6⟩:=sA.Xo Ov (q:=some ⟨g6,0,none⟩) (m:=1) (c:=cap6) (zs:=x.is.take (0+1)) ⟨by rw[DT ZC.out];exact Ub⟩
       have Xu:=X6.cs.2.2.2
       have f66:=X6.fz 3))
  all_goals
   clear X6 Xu f66 Ov Ub sA hn1 dV rV s5 d0 d1 d2 d3 ZV o5 r5 s' c0 c1 c2 c3
   generalize Xv:w6.setCell ⟨w.heap.size+1,3,none⟩ (.slice (some ⟨g6,0,none⟩) 1 cap6)=W6 at *
   clear Xv
   go_wp2
   go_loopg [23] nk (fun gg v wx=>∃ (i:Nat) (kp:Option Addr) (kc:Nat) (ip:Option Addr) (ic:Nat),v=.int .u64 (i:Nat)/\Hid (gg=nk-i)/\i<=nk/\RS w wx b false kp i kc (x.ks.take i) none 0 0 [] ip (i+1) ic (x.is.take (i+1)) (x.tail i (nk-i)))
   case atStart=>exact⟨0,_,_,_,_,rfl,rfl,aag _,s6⟩
   case round=>
     obtain⟨i,kp,kc,ip,ic,rfl,hg,hin,s⟩:=hrel;clear s6;by_cases h1:i<nk
     · have h1':(i:Int)<(nk:Int):=by omega
       obtain⟨k,hk⟩:∃ k,x.ks[i]? = some k:=⟨_,aae (by rw[HKL.out];exact h1)⟩;obtain⟨v,hv⟩:∃ v,x.is[i+1]? = some v:=⟨_,aae (by rw[HVL.out];omega)⟩;obtain⟨y,rfl,hy⟩:=G.out.ik v (aak hv);have uy:IntKind.i64.wrap (y:Int)=(y:Int):=by rw[IntKind.wrap_i64];omega
       have HK:Hid (x.ks[i]? = some k):=hk;have HV:Hid (x.is[i+1]? = some (y:Int)):=hv;have hks:=G.out.small k (aak hk);have et:x.tail i (nk-i)=dW k++(ae y++x.tail (i+1) (nk-(i+1))):=by
         rw[show nk-i=(nk-(i+1))+1 by omega,Nd.tail];unfold Nd.item;rw[hk,hv,aai (by rw[HLF.out];decide),aap];rfl
       have z1:=HTL.out (nk-(i+1)) (i+1) (by omega);have z2:=aP y (by omega);rw[et]at s;have s':=s.kept (Kept.refl wr).drew;have A2:=Xj k hks (ae y++x.tail (i+1) (nk-(i+1))) (by rw[aah];omega) s'.r;have Xt:Hid (∀ W,Rd W b (bs (ae y++x.tail (i+1) (nk-(i+1)))) 0->Calls Tryz.prog 171 #[.pointer (some ⟨b,0,none⟩),.int .u64 16383] W fun e w'=>e=.returned (.int .u64 y)/\Rd w' b (bs (x.tail (i+1) (nk-(i+1)))) 0/\Og b W w'):=fun W h=>rO y (by omega) _ (by omega) 16383 (by omega) h
       obtain⟨c0,c1,c2,c3⟩:=s'.X.cs;clear hk hv et z1 z2 hks;go_wp2_with fail;go_region_law (first
         | (go_simp
            go_at_call 208
            (with_reducible refine A2.mono ?_)
            rintro e v1 ⟨rfl,r1,o1⟩
            have s1:=s'.call o1 r1
            obtain⟨d0,d1,d2,d3⟩:=s1.X.cs
            have d1':=fun o=>(s1.X.kept ((Kept.refl v1).alloc o)).cs.2.1
            have sA:=s1.kept ((Kept.refl v1).alloc (.cells #[.string k] 9))
            have hn1:=rz v1 (.string k) 9
            have dV:∀ u∈[Value.string k],u.oneCell'=true:=(by intro u hu;simp at hu;subst hu;rfl)
            have rV:w.heap.size+1+1<=(v1.alloc (.cells #[.string k] 9)).heap.size:=(by have:=sA.X.lt;omega)
            clear A2
            go_wp2_with fail)
         | (refine step_append_lies _ (by rfl) _ _ _ (by rfl) (w.heap.size+1+1) 9 i9 _ 1 16 Tryz.underlying49 hi9 hz90 hz91 hz92 (by rfl) (by decide) (.slice kp i kc) i (dA (x.ks.take i)) (by rfl) sA.K.out ⟨v1.heap.size,0,none⟩ 1 1 [.string k] (by rfl) (by rfl) hn1 dV (by decide) (by unfold maxLen;omega) (by omega) rV _ rfl ?_
            intro g3 CG w3 ho3 hg3 _ _
            rw[ob]at hg3
            obtain⟨X3,s3⟩:=sA.Xn hg3 (q:=some ⟨g3,0,none⟩) (m:=i+1) (c:=CG) (zs:=x.ks.take (i+1)) ⟨by rw[DR HK.out];exact ho3⟩
            have QY:=X3.cs.2.1
            have f33:=X3.fz 1))
       all_goals
         clear X3 QY f33 hg3 ho3 sA hn1 dV rV s1 d0 d1 d2 d3 d1' o1 r1 s' c0 c1 c2 c3 s
         generalize hW3:w3.setCell ⟨w.heap.size+1,1,none⟩ (.slice (some ⟨g3,0,none⟩) (i+1) CG)=W3 at *
         clear hW3
         have s':=s3.kept (Kept.refl W3).drew
         clear s3
         have A3:=Xt.out _ s'.r
         obtain⟨c0,c1,c2,c3⟩:=s'.X.cs
         clear Xt
         go_wp2_with fail
         go_region_law (first
           | (go_simp
              go_at_call 171
              (with_reducible refine A3.mono ?_)
              rintro e v5 ⟨rfl,r5,o5⟩
              have s5:=s'.call o5 r5
              obtain⟨d0,d1,d2,d3⟩:=s5.X.cs
              have ZV:=fun o=>(s5.X.kept ((Kept.refl v5).alloc o)).cs.2.2.2
              have sA:=s5.kept ((Kept.refl v5).alloc (.cells #[.int .i64 y] 3))
              have hn1:=rz v5 (.int .i64 y) 3
              have dV:∀ u∈[Value.int .i64 y],u.oneCell'=true:=one_one .i64 _
              have rV:w.heap.size+1+1<=(v5.alloc (.cells #[.int .i64 y] 3)).heap.size:=(by have:=sA.X.lt;omega)
              clear A3
              go_wp2_with fail)
           | (refine step_append_lies _ (by rfl) _ _ _ (by rfl) (w.heap.size+1+1) 3 i3 _ 1 8 Tryz.underlying94 hi3 sI sJ hz32 (by rfl) (by decide) (.slice ip (i+1) ic) (i+1) (aO (x.is.take (i+1))) (by rfl) sA.I.out ⟨v5.heap.size,0,none⟩ 1 1 [.int .i64 y] (by rfl) (by rfl) hn1 dV (by decide) (by unfold maxLen;omega) (by omega) rV _ rfl ?_
              intro g6 cap6 w6 Ub Ov _ _
              rw[ob]at Ov
              obtain⟨X6,s6⟩:=sA.Xo Ov (q:=some ⟨g6,0,none⟩) (m:=i+1+1) (c:=cap6) (zs:=x.is.take (i+1+1)) ⟨by rw[DT HV.out];exact Ub⟩
              have Xu:=X6.cs.2.2.2
              have f66:=X6.fz 3))
         all_goals
           clear X6 Xu f66 Ov Ub sA hn1 dV rV s5 d0 d1 d2 d3 ZV o5 r5 s' c0 c1 c2 c3
           generalize Xv:w6.setCell ⟨w.heap.size+1,3,none⟩ (.slice (some ⟨g6,0,none⟩) (i+1+1) cap6)=W6 at *
           clear Xv
           go_wp2
           go_roundg (nk-(i+1))
           case measure=>rw[hg.out];omega
           case rel=>exact⟨i+1,_,CG,_,cap6,by go_num,rfl,by omega,s6⟩
     · obtain rfl:nk=i:=by omega
       have h1':¬ ((nk:Int)<(nk:Int)):=by omega
       rw[Nat.sub_self,aaz (by rw[HKL.out];exact aac _),aaz (by rw[HVL.out];exact aac _)]at s;have s':=s.kept (Kept.refl wr).drew;have AE:=nV (x:=0) s'.r;obtain⟨c0,c1,c2,c3⟩:=s'.X.cs;obtain⟨⟨g0,f0⟩,⟨g1,f1⟩,⟨g2,f2⟩,⟨g3,f3⟩,hfin⟩:=aD s.R.out (.bool false) (.slice kp nk kc) (.slice none 0 0) (.slice ip (nk+1) ic);go_wp2_with fail;go_region_with (first
         | (go_at_call 210
            (with_reducible refine AE.mono ?_)
            rintro e v8 ⟨rfl,Xw⟩
            rw[Xw]
            clear Xw))
       all_goals
         have q1:=(s.K.mono (Nat.le_succ _)).bS (b:=w.heap.size) (aaK _) (.bool false) (.slice kp nk kc) (.slice none 0 0) (.slice ip (nk+1) ic)
         have q2:=(s.I.mono (Nat.le_succ _)).bS (b:=w.heap.size) (aaK _) (.bool false) (.slice kp nk kc) (.slice none 0 0) (.slice ip (nk+1) ic)
         have q3:Og b w ((((wr.setCell ⟨w.heap.size,0,none⟩ (.bool false)).setCell ⟨w.heap.size,1,none⟩ (.slice kp nk kc)).setCell ⟨w.heap.size,2,none⟩ (.slice none 0 0)).setCell ⟨w.heap.size,3,none⟩ (.slice ip (nk+1) ic)):=by
           have os:=s.o.out;refine⟨os.os,os.tape,os.output,by rw[size_set,size_set,size_set,size_set];exact os.size,fun j hj hne=>?_⟩;rw[aG wr (by omega) _ _ _ _];exact os.block j hj hne
         generalize hW:((((wr.setCell ⟨w.heap.size,0,none⟩ (.bool false)).setCell ⟨w.heap.size,1,none⟩ (.slice kp nk kc)).setCell ⟨w.heap.size,2,none⟩ (.slice none 0 0)).setCell ⟨w.heap.size,3,none⟩ (.slice ip (nk+1) ic))=WF at hfin q1 q2 q3 ⊢
         go_wp2
         refine bodyPost_ret (v:=.tuple #[.agg #[.bool false,.slice kp nk kc,.slice none 0 0,.slice ip (nk+1) ic],.int .i64 0]) ?_ rfl ⟨_,_,_,_,_,_,_,_,_,rfl,⟨HLF.out,((q1.kept (Kept.refl WF).drew)).rw,?_,((q2.kept (Kept.refl WF).drew)).rw,((q1.kept (Kept.refl WF).drew)).rx,Rx.none _ _,((q2.kept (Kept.refl WF).drew)).rx⟩,q3.trans ((Kept.refl WF).drew.og b),q2.nw.mono (by omega)⟩
         · exact af (p:=4) (u:=5) (ty:=121) rfl _ _ w.heap.size 121 #[.bool false,.slice kp nk kc,.slice none 0 0,.slice ip (nk+1) ic] (0,0) _ rfl hfin Tryz.underlying121 rfl aN
         · rw[(G.out.li HLF.out).2]
           exact⟨rfl,aac _,aag _,.inl ⟨rfl,rfl⟩⟩
theorem jJ(hr:Rd w b (bs x.put) 0)(g:Good x)(SV:x.ks.length<=120)(l:Bool)(hl:x.leaf=l):
 Calls Tryz.prog 167 #[.pointer (some ⟨b,0,none⟩),.bool l] w fun e w'=>∃ kp nk kc vp nv vc ip ni ic,e=.returned (.tuple #[.agg #[.bool l,.slice kp nk kc,.slice vp nv vc,.slice ip ni ic],.int .i64 0])/\NV w' l kp nk kc vp nv vc ip ni ic x/\Og b w w'/\Nw w.heap.size ip:=by
 cases l with
 | true=>exact KS hr g hl SV
 | false=>exact Gb hr g hl SV
theorem Xx(hu:Up ks){i j:Nat}{a b:ByteArray}(h:i<j)(ha:ks[i]? = some a)(hb:ks[j]? = some b):sl a b=true:=by
 obtain⟨h1,rfl⟩:=aal.1 ha;obtain⟨h2,rfl⟩:=aal.1 hb;exact List.pairwise_iff_getElem.1 hu i j h1 h2 h
structure Rest (ks:List ByteArray) (vs:List Vl) (key:ByteArray) (k2:List ByteArray) (v2:List Vl):Prop where
 len:v2.length=k2.length
 each:∀ (j:Nat) (k:ByteArray),k2[j]? = some k->k≠key/\gG k ks=true/\∃ v,v2[j]? = some v/\vs[bP k ks]? = some v
theorem Rest.gone{key:ByteArray}{k2:List ByteArray}{v2:List Vl}(r:Rest ks vs key k2 v2):gG key k2=false:=by
 cases h:gG key k2 with
 | false=>rfl
 | true=>exact absurd rfl (r.each _ _ (BC h)).1
theorem Gd(h:NV w l kp nk kc vp nv vc ip ni ic x)(hu:Up x.ks)(hok:∀ v∈x.vs,BD v)(hb:nk<=1000)(hb2:nv<=1000):
 Calls Tryz.prog 169 #[.agg #[.bool l,.slice kp nk kc,.slice vp nv vc,.slice ip ni ic]] w fun e w'=>e=.returned (.bool true)/\Kept w w':=by
  have HV:Hid _:=h;have HU:Hid (Up x.ks):=hu;have HO:Hid _:=hok;have K0:Kept w (w.alloc (.cells #[.bool l,.slice kp nk kc,.slice vp nv vc,.slice ip ni ic] 121)):=(Kept.refl w).alloc _;have A0:=C4.alloc w 121 (.bool l) (.slice kp nk kc) (.slice vp nv vc) (.slice ip ni ic);clear h hu hok;go_enter Tryz.func169,Tryz.ntmps169;go_wp2;go_loopg [3] nk (fun gg v wx=>∃ i:Nat,v=.int .i64 i/\Hid (gg=nk+1-i)/\1<=i/\i<=nk+1/\C4 wx w.heap.size 121 (.bool l) (.slice kp nk kc) (.slice vp nv vc) (.slice ip ni ic)/\Kept w wx);case atStart=>exact⟨1,rfl,rfl,aac _,by omega,A0,K0⟩
  case round=>
   obtain⟨i,rfl,hg,hi1,hin,A,K⟩:=hrel;clear A0 K0;obtain⟨a0,a1,a2,a3⟩:=A.cs;by_cases h1:i<nk
   · have h1':(i:Int)<(nk:Int):=by omega
     obtain⟨p,hp⟩:∃ p:Nat,i=p+1:=⟨i-1,by omega⟩;obtain⟨k,hk⟩:∃ k,x.ks[i]? = some k:=⟨_,aae (by rw[HV.out.nk];exact h1)⟩;obtain⟨j,hj⟩:∃ j,x.ks[p]? = some j:=⟨_,aae (by rw[HV.out.nk];omega)⟩;have hless:Op.bytesLess j.toList k.toList=true:=Xx HU.out (by omega) hj hk;obtain⟨pb,po,rfl,hpc⟩:=HV.out.k.some (by omega);have s0:=(K.drew).cell (hpc _ _ (vE hk));have s1:=(K.drew).cell (hpc _ _ (vE hj));have u1:IntKind.i64.wrap ((i:Int)-1)=(p:Int):=by rw[IntKind.wrap_i64];omega
     have hpn:(p:Int)<(nk:Int):=by omega
     have HP:Hid (i=p+1):=hp;obtain⟨d0,d1,d2,d3⟩:=A.drew.cs;clear hk hj hpc hp;go_wp2_with fail;go_region_held3 (fun W=>W.cell? ⟨w.heap.size,1,none⟩=some (.slice (some ⟨pb,po,none⟩) nk kc)/\W.cell? ⟨pb,po+p,none⟩=some (.string j)/\W.cell? ⟨pb,po+i,none⟩=some (.string k)) (go_keep) (fail);go_wp2;go_roundg (nk+1-(i+1));case measure=>rw[hg.out];omega
     case rel=>exact⟨i+1,by go_num,rfl,by omega,by omega,A.drew,K.drew⟩
   · have h1':¬ ((i:Int)<(nk:Int)):=by omega
     clear hg;go_wp2;go_loopg [28] nv (fun gg v wx=>∃ i:Nat,v=.int .i64 i/\Hid (gg=nv-i)/\i<=nv/\Kept w wx);case atStart=>exact⟨0,rfl,rfl,aag _,K⟩
     case round=>
      clear K A a0 a1 a2 a3 hin h1 h1' hi1;obtain⟨i,rfl,hg,hin,K⟩:=hrel;by_cases h1:i<nv
      · have h1':(i:Int)<(nv:Int):=by omega
        obtain⟨v,hv⟩:∃ v,x.vs[i]? = some v:=⟨_,aae (by rw[HV.out.nv];exact h1)⟩;have hov:=HO.out v (aak hv);obtain⟨pb,po,rfl,hpc⟩:=HV.out.v.some (by omega);obtain⟨t0,t1,t2⟩:=sw hv;have s0:=K.cell (hpc _ _ t0);have s1:=K.cell (hpc _ _ t1);have s2:=K.cell (hpc _ _ t2);rw[<- Nat.add_assoc]at s1 s2;obtain⟨d,p,ln⟩:=v;clear hv hpc t0 t1 t2;rcases hov with⟨e1,e2,e3⟩|⟨e1,p',l',e2,e3,e4,e5,e6⟩
        · simp only at e1 e2
          subst e1;subst e2;go_wp2;go_roundg (nv-(i+1));case measure=>rw[hg.out];omega
          case rel=>exact⟨i+1,by go_num,rfl,by omega,K.alloc _⟩
        · simp only at e2 e4
          subst e2;subst e4;have y1:(0:Int)<=(p':Int):=by omega
          have y2:¬ ((l':Int)<=48):=by omega
          go_wp2;go_roundg (nv-(i+1));case measure=>rw[hg.out];omega
          case rel=>exact⟨i+1,by go_num,rfl,by omega,K.alloc _⟩
      · obtain rfl:nv=i:=by omega
        have h1':¬ ((nv:Int)<(nv:Int)):=by omega
        go_wp2;go_ret;exact⟨rfl,K⟩
variable {W':World}{x0:Bool}{q1 q2 q3:Option Addr}{n1 c1 n2 c2 n3 c3:Nat}
theorem Rw.other{t:TypeId}(X:C4 W b t (.bool x0) (.slice q1 n1 c1) (.slice q2 n2 c2) (.slice q3 n3 c3))(ho:∀ k,k≠b->W'.heap[k]? = W.heap[k]?){sz:Nat}{p:Option Addr}{n c:Nat}{cs:List Value}(h:Rw W sz p n c cs)(hcs:∀ u∈cs,(∃ s,u=.string s)\/∃ k i,u=.int k i):Rw W' sz p n c cs:=by
 refine⟨h.len,h.le,h.cap,?_⟩;rcases h.out with h0 | ⟨pb,off,e,f⟩
 ·exact .inl h0
 ·refine .inr ⟨pb,off,e,fun j u hu=>?_⟩
  have hc:=f j u hu;have hne:pb≠b:=by
   intro e;subst e;rw[cell_of_row W pb _ _ _ _ X.out]at hc;have hm:=Array.mem_of_getElem? hc;simp at hm;rcases hcs u (aak hu) with⟨s,rfl⟩|⟨k,i,rfl⟩
   ·simp at hm
   ·simp at hm
  rw[<- hc];exact World.cell?_of_block (ho pb hne)
theorem Rx.other(X:C4 W b 121 (.bool x0) (.slice q1 n1 c1) (.slice q2 n2 c2) (.slice q3 n3 c3))(ho:∀ k,k≠b->W'.heap[k]? = W.heap[k]?){e:TypeId}{p:Option Addr}{c:Nat}(h:Rx W e p c)(he:e≠121):Rx W' e p c:=by
 refine⟨fun g off ph hp=>?_,h.nil⟩;obtain⟨cs,fr,hb⟩:=h.typ g off ph hp;refine⟨cs,fr,(ho g ?_).trans hb⟩;rintro rfl;have hx:=X.out;rw[hb]at hx;injection hx with hx
 injection hx with _ e2 _
 exact he e2
theorem NV.other(X:C4 W b 121 (.bool x0) (.slice q1 n1 c1) (.slice q2 n2 c2) (.slice q3 n3 c3))(ho:∀ k,k≠b->W'.heap[k]? = W.heap[k]?){l:Bool}{kp:Option Addr}{nk kc:Nat}{vp:Option Addr}{nv vc:Nat}{ip:Option Addr}{ni ic:Nat}{x:Nd}(h:NV W l kp nk kc vp nv vc ip ni ic x):NV W' l kp nk kc vp nv vc ip ni ic x:=by
 refine⟨h.hl,h.k.other X ho ?_,h.v.other X ho ?_,h.i.other X ho ?_,h.kx.other X ho (by decide),h.vx.other X ho (by decide),h.ix.other X ho (by decide)⟩
 ·intro u hu;unfold dA at hu;obtain⟨s,_,rfl⟩:=List.mem_map.1 hu;exact .inl ⟨s,rfl⟩
 ·intro u hu
  unfold dQ at hu;obtain⟨v,_,hm⟩:=List.mem_flatMap.1 hu;simp[Vl.cells]at hm;rcases hm with rfl | rfl | rfl
  ·exact .inl ⟨_,rfl⟩
  ·exact .inr ⟨_,_,rfl⟩
  ·exact .inr ⟨_,_,rfl⟩
 ·intro u hu;unfold aO at hu;obtain⟨s,_,rfl⟩:=List.mem_map.1 hu;exact .inr ⟨_,s,rfl⟩
theorem DU(g:Good x)(SV:x.ks.length<=120)(hu:Up x.ks)(l:Bool)(hl:x.leaf=l):
 Calls Tryz.prog 132 #[.string (bs x.put),.bool l] w fun e w'=>∃ kp nk kc vp nv vc ip ni ic,e=.returned (.tuple #[.agg #[.bool l,.slice kp nk kc,.slice vp nv vc,.slice ip ni ic],.int .i64 0])/\NV w' l kp nk kc vp nv vc ip ni ic x/\Kept w w'/\Nw w.heap.size ip:=by
  have HN:Hid (∀ W,Calls Tryz.prog 168 #[.string (bs x.put)] W fun e w'=>e=.returned (.pointer (some ⟨W.heap.size,0,none⟩))/\Rd w' W.heap.size (bs x.put) 0/\Kept W w'):=fun W=>dN _ W
  have HR:Hid (∀ W b,Rd W b (bs x.put) 0->Calls Tryz.prog 167 #[.pointer (some ⟨b,0,none⟩),.bool l] W fun e w'=>∃ kp nk kc vp nv vc ip ni ic,e=.returned (.tuple #[.agg #[.bool l,.slice kp nk kc,.slice vp nv vc,.slice ip ni ic],.int .i64 0])/\NV w' l kp nk kc vp nv vc ip ni ic x/\Og b W w'/\Nw W.heap.size ip):=fun W b h=>jJ h g SV l hl
  have HT:Hid (∀ (W:World) (kp:Option Addr) (nk kc:Nat) (vp:Option Addr) (nv vc:Nat) (ip:Option Addr) (ni ic:Nat),NV W l kp nk kc vp nv vc ip ni ic x->Calls Tryz.prog 169 #[.agg #[.bool l,.slice kp nk kc,.slice vp nv vc,.slice ip ni ic]] W fun e w'=>e=.returned (.bool true)/\Kept W w'):=fun W kp nk kc vp nv vc ip ni ic h=>Gd h hu g.ok (by have:=h.nk;omega) (by
    have a:=h.nv
    cases hx:x.leaf with
    | true=>have:=(g.lv hx).1;omega
    | false=>rw[(g.li hx).2]at a;simp at a;omega)
  have K0:Kept w (w.alloc (.cells #[.bool false,.slice none 0 0,.slice none 0 0,.slice none 0 0] 121)):=(Kept.refl w).alloc _;have R0:=C4.alloc w 121 (.bool false) (.slice none 0 0) (.slice none 0 0) (.slice none 0 0);have S0:=size_alloc w (.cells #[.bool false,.slice none 0 0,.slice none 0 0,.slice none 0 0] 121);generalize bs x.put=s at *;clear g hu hl SV;go_enter Tryz.func132,Tryz.ntmps132;go_wp2_with (first
    | (go_at_call 168
       (with_reducible refine (HN.out _).mono ?_)
       rintro e v1 ⟨rfl,r1,k1⟩
       rw[S0]at r1
       have R1:=R0.kept k1
       have K1:=K0.trans k1
       clear HN R0 K0 k1)
    | (go_at_call 167
       (with_reducible refine (HR.out _ _ r1).mono ?_)
       rintro e v2 ⟨kp,nk,kc,vp,nv,vc,ip,ni,ic,rfl,N2,o2,nw2⟩
       have ZW:Hid (Nw w.heap.size ip):=nw2.mono K1.size
       clear nw2
       have R2:=R1.og o2 (by omega)
       have K2:=o2.kept K1 (by omega)
       have k3:=(Kept.refl v2).alloc (.cells #[.bool l,.slice kp nk kc,.slice vp nv vc,.slice ip ni ic] 121)
       have X3:=C4.alloc v2 121 (.bool l) (.slice kp nk kc) (.slice vp nv vc) (.slice ip ni ic)
       have N3:=N2.kept k3
       have R3:=R2.kept k3
       have K3:=K2.trans k3
       have z3:=R2.lt
       clear HR r1 R1 K1 o2 R2 K2 k3 N2)
    | (go_at_call 169
       (with_reducible refine (HT.out _ _ _ _ _ _ _ _ _ _ N3).mono ?_)
       rintro e v4 ⟨rfl,k4⟩
       have N4:=N3.kept k4
       have R4:=R3.kept k4
       have X4:=X3.kept k4
       have K4:=K3.trans k4
       obtain⟨c0,c1,c2,c3⟩:=X4.cs
       obtain⟨⟨g0,f0⟩,⟨g1,f1⟩,⟨g2,f2⟩,⟨g3,f3⟩,hfin⟩:=aD R4.out (.bool l) (.slice kp nk kc) (.slice vp nv vc) (.slice ip ni ic)))
  have q1:NV ((((v4.setCell ⟨w.heap.size,0,none⟩ (.bool l)).setCell ⟨w.heap.size,1,none⟩ (.slice kp nk kc)).setCell ⟨w.heap.size,2,none⟩ (.slice vp nv vc)).setCell ⟨w.heap.size,3,none⟩ (.slice ip ni ic)) l kp nk kc vp nv vc ip ni ic x:=N4.other R4 (fun k hk=>aG v4 hk _ _ _ _);have q2:=K4.bS (b:=w.heap.size) (aac _) (.bool l) (.slice kp nk kc) (.slice vp nv vc) (.slice ip ni ic);generalize hW:((((v4.setCell ⟨w.heap.size,0,none⟩ (.bool l)).setCell ⟨w.heap.size,1,none⟩ (.slice kp nk kc)).setCell ⟨w.heap.size,2,none⟩ (.slice vp nv vc)).setCell ⟨w.heap.size,3,none⟩ (.slice ip ni ic))=WF at hfin q1 q2 ⊢;refine bodyPost_ret (v:=.tuple #[.agg #[.bool l,.slice kp nk kc,.slice vp nv vc,.slice ip ni ic],.int .i64 0]) ?_ rfl ⟨_,_,_,_,_,_,_,_,_,rfl,q1,q2,ZW.out⟩;exact af (p:=4) (u:=5) (ty:=121) rfl _ _ w.heap.size 121 #[.bool l,.slice kp nk kc,.slice vp nv vc,.slice ip ni ic] (0,0) _ rfl hfin Tryz.underlying121 rfl aN
end Go.Proofs.YtifeihnhkbagpaaGreatDoor.N
namespace Go.Proofs.YtifeihnhkbagpaaGreatDoor.B
open Go.Proofs.YtifeihnhkbagpaaGreatDoor.N
theorem Ow(x:Nd):∀ n,0<n->∃ m,m<n/\(∀ j,j<m->x.gr m<x.gr j)/\∀ j,m<=j->j<n->x.gr m<=x.gr j
 | 0,h=>absurd h (Nat.lt_irrefl _)
 | 1,_=>by
  refine⟨0,by omega,fun j h=>absurd h (Nat.not_lt_zero _),fun j h1 h2=>?_⟩;obtain rfl:j=0:=by omega
  exact aac _
 | n+2,_=>by
  obtain⟨m,h1,h2,h3⟩:=Ow x (n+1) (by omega);by_cases h:x.gr (n+1)<x.gr m
  ·refine⟨n+1,by omega,fun j hj=>?_,fun j a b=>?_⟩
   ·by_cases hj2:j<m
    ·have:=h2 j hj2;omega
    ·have:=h3 j (by omega) (by omega);omega
   ·obtain rfl:j=n+1:=by omega
    exact aac _
  ·refine⟨m,by omega,h2,fun j a b=>?_⟩
   by_cases e:j=n+1
   ·subst e;omega
   ·exact h3 j a (by omega)
variable {x:Nd}
theorem Vx(h:x.ks≠[]):∃ m key,N.Mid x 0 m/\x.ks[m]? = some key:=by
 have hl:0<x.ks.length:=List.length_pos_iff.2 h;obtain⟨m,h1,h2,h3⟩:=Ow x x.ks.length hl;exact⟨m,x.ks[m],⟨aag _,h1,fun j _ hj=>h2 j hj,h3⟩,aae h1⟩
variable {M:Pm}
theorem drops{D P:List Nat}(h:∀ q,us M q=P.count q+D.count q):D.Nodup/\∀ q∈D,∃ z,M q=some z:=by
 refine⟨List.nodup_iff_count.2 fun q=>?_,fun q hq=>?_⟩
 ·have:=h q;have:=Oc M q;omega
 ·have:=h q
  have h1:=List.count_pos_iff.2 hq;unfold us at this;cases hm:M q with
  | some z=>exact⟨z,rfl⟩
  | none=>rw[hm]at this;simp at this;omega
theorem IY(M:Pm):kG M []=M:=by funext q;simp[kG]
theorem DV(M:Pm)(D:List Nat)(n:Nat):kG (kG M D) [n]=kG M (D++[n]):=by
 funext q;unfold kG;by_cases h1:q=n <;> by_cases h2:q∈D <;> simp[h1,h2]
variable {n:Nat}
theorem Ox{D:List Nat}{z:Nd}(h:M n=some z)(hn:n∉D):kG M D n=some z:=by unfold kG;rw[aai hn];exact h
variable {d:Nat}{wp joined added:List Nat}{A C:List Mk}
theorem Sg.ups{M0:Pm}{i j:Nat}{y:Nd}{g:List En->List En}(h:Sg M0 M d x i j y wp joined added A C g):Up y.ks:=
 wG h.wf (h.ord.sublist ((aaH _ _).trans (aaC _ _)))
theorem Uc{a b:Nd}{k:ByteArray}(h:Up (jn a k b).ks):Up a.ks/\Up b.ks:=by
 cases hl:a.leaf with
 | true=>rw[jV hl]at h;exact⟨List.Pairwise.sublist (aaC _ _) h,List.Pairwise.sublist (aaH _ _) h⟩
 | false=>
  rw[fE hl]at h;exact⟨List.Pairwise.sublist (aaC _ _) h,List.Pairwise.sublist ((aaH [k] _).trans (aaH _ _)) h⟩
theorem Lv.step{M0:Pm}{p:Nat}{now:Nd}{key:ByteArray}{mid:List En}{s:Stp}{c:Int}(hf:Pf M0 key (d+1) s A C)(hc:s.x.is[s.kid]? = some c)(hcp:c.toNat=p)(h:Lv M0 M d p wp now joined added (A++pre (fm M0 d) (s.x.is.take s.kid) (s.x.ks.take s.kid)) (post (fm M0 d) (s.x.ks.drop s.kid) (s.x.is.drop (s.kid+1))++C) (upd key mid)) :
  (¬ now.put.length<79/\Sg M0 M d s.x s.kid s.kid now wp joined added A C (upd key mid)) \/
  (now.put.length<79/\s.kid=0/\∃ (b:Nat) (k:ByteArray) (beside:Nd),s.x.is[1]? = some (b:Int)/\s.x.ks[0]? = some k/\M b=some beside/\jC M d beside/\Up beside.ks/\Sg M0 M d s.x 0 1 (jn now k beside) wp (b :: joined) added A C (upd key mid)) \/
  (now.put.length<79/\∃ i,s.kid=i+1/\∃ (b:Nat) (k:ByteArray) (beside:Nd),s.x.is[i]? = some (b:Int)/\s.x.ks[i]? = some k/\M b=some beside/\jC M d beside/\Up beside.ks/\Sg M0 M d s.x i (i+1) (jn beside k now) wp (b :: joined) added A C (upd key mid)):=by
 have hg:=hf.lifts hc mid;rw[hcp]at hg;have w0:=hf.wf;have hl:=(w0.2.1.li w0.1).1;have hne:0<s.x.ks.length:=List.length_pos_iff.2 hf.ne;by_cases hlow:now.put.length<79
 ·refine .inr ?_
  have Xy:∀ i,i<s.x.is.length->∃ (b:Nat) (beside:Nd),s.x.is[i]? = some (b:Int)/\M0 b=some beside:=by
   intro i hi;have e:=aae hi;have hm:=List.getElem_mem hi;obtain⟨q,hq,_⟩:=w0.2.1.ik _ hm;obtain⟨y,hy,_⟩:=w0.2.2 _ hm;rw[hq]at e hy;exact⟨q,y,e,by simpa using hy⟩
  cases hk:s.kid with
  | zero=>
   refine .inl ⟨hlow,rfl,?_⟩;obtain⟨b,beside,hb,hM⟩:=Xy 1 (by omega);rw[hk]at h hc hg;have e:=aae hne;obtain⟨h1,h2,h3⟩:=Lv.behind w0 hc hcp hb (by simp) e hM h hlow hg;exact⟨b,_,beside,hb,e,h3,h2,(Uc h1.ups).2,h1⟩
  | succ i=>
   refine .inr ⟨hlow,i,rfl,?_⟩;have hlt:=(aal.1 hc).1;rw[hk]at h hc hg hlt;obtain⟨b,beside,hb,hM⟩:=Xy i (by omega);have e:=aae (show i<s.x.ks.length by omega);obtain⟨h1,h2,h3⟩:=Lv.ahead w0 hc hcp hb (by simp) e hM h hlow hg;exact⟨b,_,beside,hb,e,h3,h2,(Uc h1.ups).1,h1⟩
 ·exact .inl ⟨hlow,Lv.self w0 hc hcp h hlow hg⟩
theorem DW{M:Pm}:∀ (d:Nat) (x:Nd),jC M d x->x.ks≠[]->2 ^ d<=(mq M d x).length+1
 | 0,_,_,_=>by simp
 | d+1,x,w,h=>by
  have hl:=(w.2.1.li w.1).1;have hp:0<x.ks.length:=List.length_pos_iff.2 h;have sub:∀ c∈x.is,2 ^ d<=(pg M d c.toNat).length:=by
   intro c hc;obtain⟨y,hy,a,_,wy⟩:=w.2.2 c hc;rw[aZ hy,aau];exact DW d y wy a
  have e:mq M (d+1) x=x.is.flatMap fun c=>pg M d c.toNat:=rfl
  match hi:x.is with
  | []=>rw[hi]at hl;simp at hl
  | [a]=>rw[hi,List.length_singleton]at hl;omega
  | a :: b :: r=>
   have ha:=sub a (by rw[hi];simp);have hb:=sub b (by rw[hi];simp);rw[e,hi,List.flatMap_cons,List.flatMap_cons,aah,aah,Nat.pow_succ];omega
theorem vJ:∀ (m:Nat) (l:List Nat),l.Nodup->(∀ q∈l,q<m)->l.length<=m
 | 0,l,_,h=>by
  cases l with
  | nil=>simp
  | cons a r=>exact absurd (h a (by simp)) (by omega)
 | m+1,l,hn,h=>by
  by_cases hm:m∈l
  ·have h1:=vJ m (l.erase m) (hn.erase m) (fun q hq=>by
    obtain⟨a,b⟩:=hn.mem_erase_iff.1 hq
    have:=h q b
    omega)
   rw[List.length_erase_of_mem hm]at h1
   omega
  ·have h1:=vJ m l hn (fun q hq=>by
    have:=h q hq
    have:q≠m:=fun e=>hm (e▸hq)
    omega)
   omega
theorem Oy(h:Tr M d n):(pg M d n).Nodup:=List.nodup_iff_count.2 fun q=>by rw[h.cnt q];exact Oc M q
theorem wY{m:Nat}(h:Tr M d n)(hm:∀ k x,M k=some x->k<m)(hm2:m<=1024):d<=10:=by
 obtain⟨y,hy,a,_,wy⟩:=h.wf;have h1:=DW d y wy a;have h2:=vJ m (pg M d n) (Oy h) (fun q hq=>by
  have:=h.cnt q
  have h3:=List.count_pos_iff.2 hq
  unfold us at this
  cases hq2:M q with
  | none=>rw[hq2]at this;simp at this;omega
  | some z=>exact hm q z hq2)
 rw[aZ hy,aau]at h2;by_cases hd:d<=10
 ·exact hd
 ·have:2 ^ 11<=2 ^ d:=Nat.pow_le_pow_right (by decide) (by omega)
  omega
def Ord (l:List En):Prop:=l.Pairwise fun a b=>sl a.1 b.1=true
theorem uN:∀ {l:List Mk},l.Pairwise R->Ord (bN l)
 | [],_=>List.Pairwise.nil
 | (k,none) :: r,h=>by
  rw[uL];exact uN (List.pairwise_cons.1 h).2
 | (k,some v) :: r,h=>by
  obtain⟨h1,h2⟩:=List.pairwise_cons.1 h;have e:bN ((k,some v) :: r)=(k,v) :: bN r:=by simp[bN]
  rw[e];exact List.pairwise_cons.2 ⟨fun a ha=>RO.1 (h1 _ (wS ha)),uN h2⟩
def su (f:Nat->Nat):Nat->Nat
 | 0=>0
 | m+1=>su f m+f m
theorem yN(f g:Nat->Nat):∀ m,su (fun q=>f q+g q) m=su f m+su g m
 | 0=>rfl
 | m+1=>by simp only[su,yN f g m];omega
theorem ou{f g:Nat->Nat}:∀ {m:Nat},(∀ q,q<m->f q=g q)->su f m=su g m
 | 0,_=>rfl
 | m+1,h=>by simp only[su];rw[ou (fun q hq=>h q (by omega)),h m (by omega)]
theorem BX{f g:Nat->Nat}:∀ {m:Nat},(∀ q,q<m->f q<=g q)->su f m<=su g m
 | 0,_=>aac _
 | m+1,h=>by
  have h1:=BX (fun q hq=>h q (show q<m+1 by omega):∀ q,q<m->f q<=g q);have h2:=h m (by omega);simp only[su];omega
theorem Oz(a:Nat):∀ m,su (fun q=>if a=q then 1 else 0) m=if a<m then 1 else 0
 | 0=>rfl
 | m+1=>by
  simp only[su,Oz a m];by_cases h1:a<m
  ·rw[aao h1,aai (by omega),aao (by omega)]
  ·by_cases h2:a=m
   ·rw[aai h1,aao h2,aao (by omega)]
   ·rw[aai h1,aai h2,aai (by omega)]
theorem BZ:∀ m,su (fun _=>0) m=0
 | 0=>rfl
 | m+1=>by simp only[su,BZ m]
theorem oz:∀ (l:List Nat) (m:Nat),su (fun q=>l.count q) m<=l.length/\((∀ q∈l,q<m)->su (fun q=>l.count q) m=l.length)
 | [],m=>by simp[BZ]
 | a :: r,m=>by
  obtain⟨h1,h2⟩:=oz r m;have e:su (fun q=>(a :: r).count q) m=su (fun q=>r.count q) m+(if a<m then 1 else 0):=by
   rw[<- Oz a m,<- yN];exact ou fun q _=>by rw[List.count_cons];simp
  rw[e,aau];refine⟨by split <;> omega,fun h=>?_⟩;rw[h2 (fun q hq=>h q (List.mem_cons_of_mem _ hq)),aao (h a List.mem_cons_self)]
def nJ (M:Pm) (m:Nat):Nat:=su (us M) m
theorem pK{root:Int}{l:List En}(m:Nat)(h:Tree M root l):nJ M m<=2*l.length-1:=by
 rcases h with⟨_,rfl,hM⟩|⟨d,n,_,hT,rfl⟩
 ·unfold nJ
  rw[ou (g:=fun _=>0) (fun q _=>by unfold us;rw[hM q];rfl),BZ];omega
 ·unfold nJ
  rw[ou (g:=fun q=>(pg M d n).count q) (fun q _=>(hT.cnt q).symm)];have h1:=(oz (pg M d n) m).1;have h2:=hT.many.2;omega
