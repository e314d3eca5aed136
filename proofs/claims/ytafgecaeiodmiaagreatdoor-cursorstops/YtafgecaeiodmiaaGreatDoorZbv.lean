/- Joined. -/
import Derived.Test.YtafgecaeiodmiaaGreatDoorZbr
import Derived.Test.YtafgecaeiodmiaaGreatDoorZbu
namespace Go.Proofs.YtafgecaeiodmiaaGreatDoor.T
open Go.RowKit Go.Shelf
open B (Pm Mk En upd Tree Ord R)
open N (Kept Rw Rx Vl sl C4)
attribute [local go_sem] Oper.semAt_some
theorem frm_empty(l:List En):frm ⟨#[]⟩ l=l:=frm_all fun e _=>by
 unfold sl;rw[N.toList_eq,N.toList_eq];cases e.1.data.toList <;> rfl
structure So (w W:World) (m:Nat):Prop where
 nb:W.heap[w.heap.size]? = some (.cells #[.int .i64 (m:Nat)] 3)
 eb:W.heap[w.heap.size+1]? = some (.cells #[.int .i64 0] 29)
 low:Below w.heap.size w W
theorem So.stay{w W W':World}{m B:Nat}{row:Option Nat}(h:So w W m)(hg:W.grownBy W' row)(hr:∀ r,row=some r→B≤r∧∃ o:Obj,W.heap[r]? = some o∧o.isCells=false)(hB:w.heap.size≤B):So w W' m:=
 have hr2:∀ r,row=some r→∃ o:Obj,W.heap[r]? = some o∧o.isCells=false:=fun r e=>(hr r e).2
 ⟨cells_stay hg hr2 h.nb,cells_stay hg hr2 h.eb,below_stay h.low (Nat.le_refl _) hg (fun r e=>(hr r e).1) hB⟩
theorem So.kept{w W W':World}{m:Nat}(h:So w W m)(k:Kept W W'):So w W' m:=h.stay (B:=w.heap.size) (k.grown none) (fun r e=>by cases e) (Nat.le_refl _)
theorem So.set{w W:World}{m:Nat}(h:So w W m)(m':Nat):(W.cell? ⟨w.heap.size,0,none⟩=some (.int .i64 (m:Nat))∧W.frozen? ⟨w.heap.size,0,none⟩=false)∧So w (W.setCell ⟨w.heap.size,0,none⟩ (.int .i64 (m':Nat))) m'∧KeepsOthers W (W.setCell ⟨w.heap.size,0,none⟩ (.int .i64 (m':Nat)))∧Kq w.heap.size W (W.setCell ⟨w.heap.size,0,none⟩ (.int .i64 (m':Nat))):=by
 have ot:∀ k,k≠w.heap.size→(W.setCell ⟨w.heap.size,0,none⟩ (.int .i64 (m':Nat))).heap[k]? = W.heap[k]?:=fun k hk=>heap_setCell_other _ ⟨w.heap.size,0,none⟩ k _ hk
 have lw:=(Below.refl w.heap.size W).setCell (p:=⟨w.heap.size,0,none⟩) (Nat.le_refl _) (.int .i64 (m':Nat));refine⟨⟨by rw[cell_of_row _ _ 0 _ _ _ h.nb];rfl,frozen_of_row _ _ 0 _ _ h.nb⟩,⟨by rw[heap_setCell_same _ _ 0 _ _ _ h.nb];rfl,(ot _ (by omega)).trans h.eb,h.low.trans lw⟩,KeepsOthers.setCell _ _ _,lw,fun b cs ty fr hb ht=>(ot b ?_).trans hb⟩;rintro rfl;rw[h.nb]at hb;injection hb with hb
 injection hb with _ hb
 rcases ht with rfl | rfl | rfl | rfl <;> exact absurd hb (by decide)
theorem five_new(w:World)(a b c d e:Obj){W0:World}(h:((((w.alloc a).alloc b).alloc c).alloc d).alloc e=W0) :
  Kept w W0∧W0.heap[w.heap.size]? = some a∧W0.heap[w.heap.size+1]? = some b∧W0.heap[w.heap.size+1+1]? = some c∧W0.heap[w.heap.size+1+1+1]? = some d:=by
 subst h;refine⟨(((((Kept.refl w).alloc _).alloc _).alloc _).alloc _).alloc _,?_,?_,?_,?_⟩
 ·exact (((((Kept.refl _).alloc _).alloc _).alloc _).alloc _).block (heap_alloc_new w a)
 ·exact ((((Kept.refl _).alloc _).alloc _).alloc _).block (by have:=heap_alloc_new (w.alloc a) b;rwa [N.size_alloc]at this)
 ·exact (((Kept.refl _).alloc _).alloc _).block (by have:=heap_alloc_new ((w.alloc a).alloc b) c;rwa [N.size_alloc,N.size_alloc]at this)
 ·exact ((Kept.refl _).alloc _).block (by have:=heap_alloc_new (((w.alloc a).alloc b).alloc c) d;rwa [N.size_alloc,N.size_alloc,N.size_alloc]at this)
def Kys (l pre:List En):Prop:=∀ (i:Nat) (e:En),pre[i]? = some e→∃ e':En,l[i]? = some e'∧e'.1=e.1
theorem not_pre_long{l pre:List En}{x:En}(h:l.length≤pre.length):¬ pre++[x] <+: l:=fun hp=>by
 have:=hp.length_le;simp at this;omega
theorem not_pre_key{l pre:List En}{x e:En}(h:l[pre.length]? = some e)(hk:¬ x.1=e.1):¬ pre++[x] <+: l:=fun hp=>by
 obtain⟨t,rfl⟩:=hp;rw[List.append_assoc,List.getElem?_append_right (Nat.le_refl _),Nat.sub_self]at h;simp at h;exact hk (by rw[h])
set_option maxRecDepth 100000 in
set_option maxHeartbeats 4000000 in
theorem stops_law{w:World}(hL:S.Lds w){pa:Option Addr}{na ca:Nat}(A:Strs w pa na)(most:Int) :
  Calls Tryz.prog 5 #[.slice pa na ca,.int .i64 most] w fun e w'=>e=.returned (.bool true)∧Kept w w':=by
 have ka:Kept w ((w.alloc (.cells #[.int .i64 most] 3)).alloc (.cells #[.bool false] 4)):=((Kept.refl w).alloc _).alloc _;obtain⟨mm,hm,hmm⟩:=N.lowbits 6 63 (by decide) (by decide) most;have hmm':bits .and .i64 most 63=(mm:Int):=hmm;clear hmm;have f1:=(callsIn_wide (n:=4)).2 (begun_walk (ca:=ca) (lds_kept hL ka) (A.kept ka));have f4:Hid (∀ W,Kept w W→Calls Tryz.prog 11 #[] W fun e w'=>e=.returned (.bool true)∧Kept W w'):=fun W k=>awake_walk (lds_kept hL k)
 have b0:((w.alloc (.cells #[.int .i64 most] 3)).alloc (.cells #[.bool false] 4)).heap[w.heap.size]? = some (.cells #[.int .i64 most] 3):=((Kept.refl _).alloc _).block (heap_alloc_new w _);have b1:((w.alloc (.cells #[.int .i64 most] 3)).alloc (.cells #[.bool false] 4)).heap[w.heap.size+1]? = some (.cells #[.bool false] 4):=D.two_new w _ _;have HLn:Hid ((begl (A.kept ka).s (min na 100)).length≤100):=by have:=begl_len (A.kept ka).s (min na 100);show _≤100;omega
 generalize begl (A.kept ka).s (min na 100)=l at f1 HLn;clear hL A;refine (callsIn_wide (n:=5)).1 ?_;have hdd:∀ k:Nat,(Fence.wide.depth.isSome=true→1≤k):=fun k h=>by cases h
 refine callsIn_of_wp_marks Tryz.func5 rfl trivial ?_ rfl;simp only[Tryz.ntmps5,List.size_toArray,List.length_cons,List.length_nil,Nat.reduceAdd,Nat.reduceSub,Array.replicate_succ,Array.replicate_zero,List.push_toArray,List.append_toArray,List.nil_append,List.cons_append];gi_wp2_with (first
  | (refine⟨trivial,?_⟩;(try refine⟨hdd _,?_⟩);gi_at_call 8;refine f1.mono ?_;clear f1;rintro e w1 ⟨t,p,kp,n,kc,rfl,G1⟩;have k1:Kept w1 (w1.alloc (.cells #[.slice kp n kc] 25)):=(Kept.refl w1).alloc _;have g4:=(callsIn_wide (n:=4)).2 (f4.out _ ((ka.trans G1.low).trans k1));have HG1:Hid (Gs ((w.alloc (.cells #[.int .i64 most] 3)).alloc (.cells #[.bool false] 4)) w1 t p kp n kc l l):=G1;clear G1)
  | (refine⟨trivial,?_⟩;(try refine⟨hdd _,?_⟩);gi_at_call 11;refine g4.mono ?_;clear g4;rintro e w2 ⟨rfl,k2⟩)
  | (refine⟨trivial,?_⟩;(try refine⟨hdd _,?_⟩);gi_at_call 13;refine (from_in _ _ _ _ _).mono ?_;rintro e w' ⟨rfl,rfl⟩))
 have k12:Kept w1 w2:=k1.trans k2;have G2:=HG1.out.kept k12;obtain⟨Z,HS⟩:=G2.seek;have hlist:w2.heap[w1.heap.size]? = some (.cells #[.slice kp n kc] 25):=k2.block (heap_alloc_new w1 _);have hmost:w2.heap[w.heap.size]? = some (.cells #[.int .i64 most] 3):=G2.low.block b0;have hres:w2.heap[w.heap.size+1]? = some (.cells #[.bool false] 4):=G2.low.block b1;have hn:n≤100:=by have:=G2.len;have:=HLn.out;omega
 have HLen:Hid (l.length=n):=G2.len;obtain⟨_,lb,lo,lat,lcs⟩:=Pl.of G2.rw_;have AT:Hid (0<n→kp=some ⟨lb,lo,none⟩):=lat;have CS:Hid (∀ i e,l[i]? = some e→w2.cell? ⟨lb,lo+i*2,none⟩=some (.string e.1)∧w2.cell? ⟨lb,lo+i*2+1,none⟩=some (.string e.2.d)):=lcs;have KW2:Hid (Kept w w2):=ka.trans G2.low;obtain⟨W0,hW0⟩:∃ W0,(((((w2.alloc (.cells #[.int .i64 0] 3)).alloc (.cells #[.int .i64 0] 29)).alloc (.cells #[.pointer (some ⟨t,0,none⟩)] 24)).alloc (.cells #[.string ⟨#[]⟩] 9)).alloc (.cells #[.pointer (some ⟨w2.heap.size+1,0,none⟩)] 47))=W0:=⟨_,rfl⟩;obtain⟨kW,c0,c1,c2,c3⟩:=five_new w2 _ _ _ _ _ hW0;rw[hW0];have R0:So w2 W0 0:=⟨c0,c1,kW.out⟩;have hle:w2.heap.size≤W0.heap.size:=kW.size;have hst:=iter_stops 4 HS kW (w2.heap.size+1+1) (w2.heap.size+1+1+1) (w2.heap.size+1+1+1+1) c2 c3;rw[frm_empty]at hst;clear hW0 c0 c1 c2 c3 b0 b1 lat lcs k1 k2 k12 HG1 G2 HS f4;refine wpIn_rangeFunc_ownH rfl (by omega) (gf:=24) (lb:=#[.pointer (some ⟨w2.heap.size+1+1+1,0,none⟩),.pointer (some ⟨w2.heap.size+1+1,0,none⟩),.pointer (some ⟨w2.heap.size+1+1+1+1,0,none⟩)]) rfl trivial (enters_of Tryz.func24 (by kernel_rfl) rfl)
  hst (fun h k=>h.trans k) (kq_b hle) (Below.refl _ _) (fun _=>rfl)
  (fun pre W=>So w2 W pre.length∧Kys l pre∧pre.length≤mm)
  (fun c pre W=>(c=.ret∧¬ pre <+: l)∨(c=.exit 0∧So w2 W pre.length∧pre.length=mm+1))
  (fun pre W W' row hs hg hr=>⟨hs.1.stay hg hr hle,hs.2⟩)
  (fun c pre W W' row hs hg hr=>hs.imp id (fun h=>⟨h.1,h.2.1.stay hg hr hle,h.2.2⟩))
  ⟨R0,(show Kys l [] from fun i e h=>by simp at h),Nat.zero_le _⟩
  (fun x a' W=>∃ Bx,C4 W Bx 37 (.string x.1) (.string x.2.d) (.int .i64 x.2.p) (.int .i64 x.2.l)∧a'={ tmps:=#[.slice pa na ca,.int .i64 most,undef,.pointer (some ⟨w.heap.size,0,none⟩),.pointer (some ⟨w.heap.size+1,0,none⟩),.pointer (some ⟨t,0,none⟩),.pointer (some ⟨w1.heap.size,0,none⟩),.bool true,.pointer (some ⟨w2.heap.size,0,none⟩),.pointer (some ⟨w2.heap.size+1,0,none⟩),.pointer (some ⟨Bx,0,none⟩),.tuple #[.pointer (some ⟨t,0,none⟩),.slice kp n kc,.bool true],.slice pa na ca,.tuple #[.pointer (some ⟨t,0,none⟩),.slice kp n kc,.bool true],.pointer (some ⟨t,0,none⟩),.slice kp n kc,.bool true,.bool true,.bool false,.bool false,.bool true,.bool false,.bool false,.pointer (some ⟨t,0,none⟩),.func (.func 24) #[] #[.pointer (some ⟨w2.heap.size+1+1+1,0,none⟩),.pointer (some ⟨w2.heap.size+1+1,0,none⟩),.pointer (some ⟨w2.heap.size+1+1+1+1,0,none⟩)],.agg #[.string x.1,.string x.2.d,.int .i64 x.2.p,.int .i64 x.2.l],undef,undef,undef,undef,undef,undef,undef,undef,undef,undef,undef,undef,undef,undef,undef,undef,undef,undef,undef,undef,undef,undef,undef,undef,undef,undef,undef,undef,undef,undef,undef,undef,undef,undef,undef],defers:=[] })
  (fun x a' u W W' row hs hg hr=>by obtain⟨Bx,h,e⟩:=hs;exact⟨Bx,⟨cells_stay hg (fun r e=>(hr r e).2) h.out⟩,e⟩)
  ?assign ?body ?done ?stop
 case assign=>
  rintro l' pre x W K ⟨hR,hk,hlen⟩ hK;have ka:Kept W (W.alloc (.cells #[.string x.1,.string x.2.d,.int .i64 x.2.p,.int .i64 x.2.l] 37)):=(Kept.refl W).alloc _;have hK2:=fun a'=>hK a' (W.alloc (.cells #[.string x.1,.string x.2.d,.int .i64 x.2.p,.int .i64 x.2.l] 37)) ((KeepsOthers.alloc W _).from _) (Kq.ofKept ka hR.low.size) ⟨hR.kept ka,hk,hlen⟩
  have hX:=C4.alloc W 37 (.string x.1) (.string x.2.d) (.int .i64 x.2.p) (.int .i64 x.2.l);clear hK;dsimp only[encs];gi_wp2;all_goals exact⟨_,hX,rfl⟩
 case body=>
  rintro l' pre x a' W hl' _ ⟨hS,hk,hlen⟩ ⟨Bx,hX,rfl⟩ _;obtain⟨x0,x1,x2,x3⟩:=hX.cs;have low:∀ {b:Nat} {o:Obj},w2.heap[b]? = some o→W.heap[b]? = some o:=fun {b o} h=>(hS.low.block b (Array.getElem?_eq_some_iff.1 h).1).trans h
  have yn:W.cell? ⟨w2.heap.size,0,none⟩=some (.int .i64 (pre.length:Nat)):=by rw[cell_of_row _ _ 0 _ _ _ hS.nb];rfl
  have yl:W.cell? ⟨w1.heap.size,0,none⟩=some (.slice kp n kc):=by rw[cell_of_row _ _ 0 _ _ _ (low hlist)];rfl
  have ym:W.cell? ⟨w.heap.size,0,none⟩=some (.int .i64 most):=by rw[cell_of_row _ _ 0 _ _ _ (low hmost)];rfl
  have yr:W.cell? ⟨w.heap.size+1,0,none⟩=some (.bool false):=by rw[cell_of_row _ _ 0 _ _ _ (low hres)];rfl
  have yf:W.frozen? ⟨w.heap.size+1,0,none⟩=false:=frozen_of_row _ _ 0 _ _ (low hres);have HKy:Hid (Kys l pre):=hk;have hmb:mm<64:=hm;clear hk low;by_cases h1:(n:Int)≤(pre.length:Int)
  ·have HP:Hid (¬ pre++[x] <+: l):=not_pre_long (by rw[HLen.out];omega)
   gi_wp2;refine region_round l' (by kernel_rfl) (by kernel_rfl) (by kernel_rfl) ?_;repeat (quiet_step_in (fail))
   refine wpQuietIn_nil ?_;intro _ hw';obtain⟨nq,hw''⟩:=hw';subst hw'';have kq:Kept W (W.drewN nq):=⟨⟨rfl,rfl,rfl,Nat.le_refl _,fun _ _=>rfl⟩⟩;have S2:=hS.kept kq;have y1:=kq.cell ym;have y2:=kq.cell yr;have y3:(W.drewN nq).frozen? ⟨w.heap.size+1,0,none⟩=false:=yf;have ko:KeepsOthers W (W.drewN nq):=⟨Nat.le_refl _,fun _ _ h _=>h⟩;have kk:Kq w2.heap.size W (W.drewN nq):=Kq.ofKept kq hS.low.size;generalize W.drewN nq=W2 at *;have tst:(storeVar 4 ⟨w.heap.size+1,0,none⟩ (.bool false)).run Tryz.prog W2=.ok () (W2.setCell ⟨w.heap.size+1,0,none⟩ (.bool false)):=by
    simp[go_sem,storeVar,y2,y3]
   clear h1 hmb hm hn HKy hS S2 kk;gi_wp2;exact⟨(ko.trans (KeepsOthers.setCell _ _ _)).from _,.inl ⟨rfl,HP.out⟩⟩
  ·obtain⟨e,he⟩:∃ e,l[pre.length]? = some e:=⟨_,List.getElem?_eq_getElem (by rw[HLen.out];omega)⟩
   obtain rfl:=AT.out (by omega);have ye:=(hS.low.cell (World.block_lt_of_cell? w2 _ (CS.out _ e he).1)).trans (CS.out _ e he).1;have h1':¬ n≤pre.length:=by omega
   have h1'':(pre.length:Int)<(n:Int):=by omega
   by_cases hx:x.1=e.1
   ·have HK2:Hid (Kys l (pre++[x])):=fun i y hy=>by
     rcases Nat.lt_or_ge i pre.length with h | h
     ·rw[List.getElem?_append_left h]at hy
      exact HKy.out i y hy
     ·rw[List.getElem?_append_right h]at hy
      have hi:i-pre.length=0:=by
       have:=(List.getElem?_eq_some_iff.1 hy).1;simp at this;omega
      rw[hi]at hy;simp at hy;subst hy;exact⟨e,by rw[show i=pre.length by omega];exact he,hx.symm⟩
    have hxe:(x.1.toList == e.1.toList)=true:=by rw[N.seq_iff];simpa using hx
    clear hx he
    gi_wp2
    refine region_round l' (by kernel_rfl) (by kernel_rfl) (by kernel_rfl) ?_
    repeat (quiet_step_in (fail))
    refine wpQuietIn_nil ?_
    intro _ hw'
    obtain⟨nq,hw''⟩:=hw'
    subst hw''
    have kq:Kept W (W.drewN nq):=⟨⟨rfl,rfl,rfl,Nat.le_refl _,fun _ _=>rfl⟩⟩
    have S2:=hS.kept kq
    have y1:=kq.cell ym
    have y2:=kq.cell yr
    have y3:(W.drewN nq).frozen? ⟨w.heap.size+1,0,none⟩=false:=yf
    have ko:KeepsOthers W (W.drewN nq):=⟨Nat.le_refl _,fun _ _ h _=>h⟩
    have kk:Kq w2.heap.size W (W.drewN nq):=Kq.ofKept kq hS.low.size
    generalize W.drewN nq=W2 at *
    obtain⟨m1,hm1⟩:∃ m1:Nat,m1=pre.length+1:=⟨_,rfl⟩
    have hmi:(pre.length:Int)+1=(m1:Int):=by omega
    obtain⟨⟨z0,z1⟩,S3,ko3,kk3⟩:=S2.set m1
    have u0:(W2.setCell ⟨w2.heap.size,0,none⟩ (.int .i64 (m1:Nat))).cell? ⟨w2.heap.size,0,none⟩=some (.int .i64 (m1:Nat)):=by rw[cell_of_row _ _ 0 _ _ _ S3.nb];rfl
    have u1:(W2.setCell ⟨w2.heap.size,0,none⟩ (.int .i64 (m1:Nat))).cell? ⟨w.heap.size,0,none⟩=some (.int .i64 most):=by
     rw[cell_of_row _ _ 0 _ _ _ ((S3.low.block _ (Array.getElem?_eq_some_iff.1 hmost).1).trans hmost)];rfl
    have tst:(storeVar 3 ⟨w2.heap.size,0,none⟩ (.int .i64 (m1:Nat))).run Tryz.prog W2=.ok () (W2.setCell ⟨w2.heap.size,0,none⟩ (.int .i64 (m1:Nat))):=by
     simp[go_sem,storeVar,z0,z1]
    have HM1:Hid (m1=pre.length+1):=hm1
    have HLm:Hid (pre.length≤mm):=hlen
    have hm100:m1≤200:=by omega
    clear hm1 h1 h1' h1'' HKy hS hlen
    have hl1:Hid ((pre++[x]).length=m1):=by show _=_;rw[HM1.out];simp
    by_cases h2:(mm:Int)<(m1:Int)
    ·gi_wp2
     exact⟨(ko.trans ko3).from _,.inr ⟨rfl,by rw[hl1.out];exact S3,by rw[hl1.out];have:=HM1.out;have:=HLm.out;omega⟩⟩
    ·gi_wp2
     exact⟨(ko.trans ko3).from _,kk.trans kk3,by rw[hl1.out];exact S3,HK2.out,by rw[hl1.out];omega⟩
   ·have HP:Hid (¬ pre++[x] <+: l):=not_pre_key he hx
    have hxe:(x.1.toList == e.1.toList)=false:=by rw[N.seq_iff];simpa using hx
    clear hx he;gi_wp2;refine region_round l' (by kernel_rfl) (by kernel_rfl) (by kernel_rfl) ?_;repeat (quiet_step_in (fail))
    refine wpQuietIn_nil ?_;intro _ hw';obtain⟨nq,hw''⟩:=hw';subst hw'';have kq:Kept W (W.drewN nq):=⟨⟨rfl,rfl,rfl,Nat.le_refl _,fun _ _=>rfl⟩⟩;have S2:=hS.kept kq;have y1:=kq.cell ym;have y2:=kq.cell yr;have y3:(W.drewN nq).frozen? ⟨w.heap.size+1,0,none⟩=false:=yf;have ko:KeepsOthers W (W.drewN nq):=⟨Nat.le_refl _,fun _ _ h _=>h⟩;have kk:Kq w2.heap.size W (W.drewN nq):=Kq.ofKept kq hS.low.size;generalize W.drewN nq=W2 at *;have tst:(storeVar 4 ⟨w.heap.size+1,0,none⟩ (.bool false)).run Tryz.prog W2=.ok () (W2.setCell ⟨w.heap.size+1,0,none⟩ (.bool false)):=by
     simp[go_sem,storeVar,y2,y3]
    clear h1 hmb hm hn HKy hS S2 kk;gi_wp2;exact⟨(ko.trans (KeepsOthers.setCell _ _ _)).from _,.inl ⟨rfl,HP.out⟩⟩
 case done=>
  rintro D xs W hD rfl ⟨hS,hk,hlen⟩ hK;rw[HLen.out]at hS;have yn:W.cell? ⟨w2.heap.size,0,none⟩=some (.int .i64 (n:Nat)):=by rw[cell_of_row _ _ 0 _ _ _ hS.nb];rfl
  have low:∀ {b:Nat} {o:Obj},w2.heap[b]? = some o→W.heap[b]? = some o:=fun {b o} h=>(hS.low.block b (Array.getElem?_eq_some_iff.1 h).1).trans h
  have ye:W.cell? ⟨w2.heap.size+1,0,none⟩=some (.int .i64 0):=by rw[cell_of_row _ _ 0 _ _ _ hS.eb];rfl
  have yl:W.cell? ⟨w1.heap.size,0,none⟩=some (.slice kp n kc):=by rw[cell_of_row _ _ 0 _ _ _ (low hlist)];rfl
  have ym:W.cell? ⟨w.heap.size,0,none⟩=some (.int .i64 most):=by rw[cell_of_row _ _ 0 _ _ _ (low hmost)];rfl
  have yr:W.cell? ⟨w.heap.size+1,0,none⟩=some (.bool false):=by rw[cell_of_row _ _ 0 _ _ _ (low hres)];rfl
  have yf:W.frozen? ⟨w.heap.size+1,0,none⟩=false:=frozen_of_row _ _ 0 _ _ (low hres);have tst:(storeVar 4 ⟨w.heap.size+1,0,none⟩ (.bool true)).run Tryz.prog W=.ok () (W.setCell ⟨w.heap.size+1,0,none⟩ (.bool true)):=by
   simp[go_sem,storeVar,yr,yf]
  have hb7:(W.setCell ⟨w.heap.size+1,0,none⟩ (.bool true)).heap[w.heap.size+1]? = some (.cells #[.bool true] 4):=by rw[heap_setCell_same _ _ 0 _ _ _ (low hres)];rfl
  have hK7:(W.setCell ⟨w.heap.size+1,0,none⟩ (.bool true)).heap[D]? = some (.deferred (some [])):=(KeepsOthers.setCell W _ _).same D _ hK rfl;have lw:Below w.heap.size w (W.setCell ⟨w.heap.size+1,0,none⟩ (.bool true)):=(KW2.out.out.trans (hS.low.mono KW2.out.size)).setCell (p:=⟨w.heap.size+1,0,none⟩) (by show w.heap.size≤w.heap.size+1;omega) _;have hDw:w.heap.size≤D:=Nat.le_trans (Nat.le_trans KW2.out.size hle) hD;have hb8:=cells_stay (grownBy_putObj' (W.setCell ⟨w.heap.size+1,0,none⟩ (.bool true)) D (.deferred none)) (fun r e=>by cases e;exact⟨_,hK7,rfl⟩) hb7;have lw8:=below_stay (B:=w.heap.size) lw (Nat.le_refl _) (grownBy_putObj' (W.setCell ⟨w.heap.size+1,0,none⟩ (.bool true)) D (.deferred none)) (fun r e=>by cases e;exact hDw) (Nat.le_refl _);have HB8:Hid (((W.setCell ⟨w.heap.size+1,0,none⟩ (.bool true)).putObj D (.deferred none)).heap[w.heap.size+1]? = some (.cells #[.bool true] 4)):=hb8;have HW8:Hid (Below w.heap.size w ((W.setCell ⟨w.heap.size+1,0,none⟩ (.bool true)).putObj D (.deferred none))):=lw8;clear hb7 hb8 lw lw8 low;clear hk hlen hn hm;gi_wp2;refine⟨by simp,.inl ⟨_,_,rfl,run_takeDeferred hK7,?_⟩⟩;refine⟨.bool true,?_,rfl,⟨HW8.out⟩⟩;have e8:((W.setCell ⟨w.heap.size+1,0,none⟩ (.bool true)).putObj D (.deferred none)).cell? ⟨w.heap.size+1,0,none⟩=some (.bool true):=by rw[cell_of_row _ _ 0 _ _ _ HB8.out];rfl
  simp[results,Tryz.f5,go_sem,e8]
 case stop=>
  rintro D c pre W hD hp (⟨rfl,hno⟩|⟨rfl,hS,hlen⟩) hK
  ·exact absurd hp hno
  have yn:W.cell? ⟨w2.heap.size,0,none⟩=some (.int .i64 ((mm:Int)+1)):=by rw[cell_of_row _ _ 0 _ _ _ hS.nb,hlen];rfl
  have low:∀ {b:Nat} {o:Obj},w2.heap[b]? = some o→W.heap[b]? = some o:=fun {b o} h=>(hS.low.block b (Array.getElem?_eq_some_iff.1 h).1).trans h
  have ye:W.cell? ⟨w2.heap.size+1,0,none⟩=some (.int .i64 0):=by rw[cell_of_row _ _ 0 _ _ _ hS.eb];rfl
  have yl:W.cell? ⟨w1.heap.size,0,none⟩=some (.slice kp n kc):=by rw[cell_of_row _ _ 0 _ _ _ (low hlist)];rfl
  have ym:W.cell? ⟨w.heap.size,0,none⟩=some (.int .i64 most):=by rw[cell_of_row _ _ 0 _ _ _ (low hmost)];rfl
  have yr:W.cell? ⟨w.heap.size+1,0,none⟩=some (.bool false):=by rw[cell_of_row _ _ 0 _ _ _ (low hres)];rfl
  have yf:W.frozen? ⟨w.heap.size+1,0,none⟩=false:=frozen_of_row _ _ 0 _ _ (low hres);have tst:(storeVar 4 ⟨w.heap.size+1,0,none⟩ (.bool true)).run Tryz.prog W=.ok () (W.setCell ⟨w.heap.size+1,0,none⟩ (.bool true)):=by
   simp[go_sem,storeVar,yr,yf]
  have hb7:(W.setCell ⟨w.heap.size+1,0,none⟩ (.bool true)).heap[w.heap.size+1]? = some (.cells #[.bool true] 4):=by rw[heap_setCell_same _ _ 0 _ _ _ (low hres)];rfl
  have hK7:(W.setCell ⟨w.heap.size+1,0,none⟩ (.bool true)).heap[D]? = some (.deferred (some [])):=(KeepsOthers.setCell W _ _).same D _ hK rfl;have lw:Below w.heap.size w (W.setCell ⟨w.heap.size+1,0,none⟩ (.bool true)):=(KW2.out.out.trans (hS.low.mono KW2.out.size)).setCell (p:=⟨w.heap.size+1,0,none⟩) (by show w.heap.size≤w.heap.size+1;omega) _;have hDw:w.heap.size≤D:=Nat.le_trans (Nat.le_trans KW2.out.size hle) hD;have hb8:=cells_stay (grownBy_putObj' (W.setCell ⟨w.heap.size+1,0,none⟩ (.bool true)) D (.deferred none)) (fun r e=>by cases e;exact⟨_,hK7,rfl⟩) hb7;have lw8:=below_stay (B:=w.heap.size) lw (Nat.le_refl _) (grownBy_putObj' (W.setCell ⟨w.heap.size+1,0,none⟩ (.bool true)) D (.deferred none)) (fun r e=>by cases e;exact hDw) (Nat.le_refl _);have HB8:Hid (((W.setCell ⟨w.heap.size+1,0,none⟩ (.bool true)).putObj D (.deferred none)).heap[w.heap.size+1]? = some (.cells #[.bool true] 4)):=hb8;have HW8:Hid (Below w.heap.size w ((W.setCell ⟨w.heap.size+1,0,none⟩ (.bool true)).putObj D (.deferred none))):=lw8;clear hb7 hb8 lw lw8 low;clear hlen hn;by_cases h2:(mm:Int)+1=(n:Int)
  ·have yn2:W.cell? ⟨w2.heap.size,0,none⟩=some (.int .i64 (n:Nat)):=by rw[yn,h2]
   clear yn h2;gi_wp2;refine⟨by simp,.inl ⟨_,_,rfl,run_takeDeferred hK7,?_⟩⟩;refine⟨.bool true,?_,rfl,⟨HW8.out⟩⟩;have e8:((W.setCell ⟨w.heap.size+1,0,none⟩ (.bool true)).putObj D (.deferred none)).cell? ⟨w.heap.size+1,0,none⟩=some (.bool true):=by rw[cell_of_row _ _ 0 _ _ _ HB8.out];rfl
   simp[results,Tryz.f5,go_sem,e8]
  ·gi_wp2
   refine⟨by simp,.inl ⟨_,_,rfl,run_takeDeferred hK7,?_⟩⟩;refine⟨.bool true,?_,rfl,⟨HW8.out⟩⟩;have e8:((W.setCell ⟨w.heap.size+1,0,none⟩ (.bool true)).putObj D (.deferred none)).cell? ⟨w.heap.size+1,0,none⟩=some (.bool true):=by rw[cell_of_row _ _ 0 _ _ _ HB8.out];rfl
   simp[results,Tryz.f5,go_sem,e8]
end Go.Proofs.YtafgecaeiodmiaaGreatDoor.T