/- Joined. -/
import Derived.Test.YtifeihnhkbagpaaGreatDoorZad
import Derived.OwnWalk
import Derived.Laws.CopyOwn
import Derived.Laws.OwnMore
set_option maxRecDepth 100000
set_option maxHeartbeats 2000000
namespace Go.Proofs.YtifeihnhkbagpaaGreatDoor.S
open ChangeShapes WideShapes ChangeAt RowKit
def jf (u:Nat->Bool) (m k:Nat) (r:Int):Prop:=
 (∃ i:Nat,r=i/\k<=i/\i<m/\u i=false/\∀ j,k<=j->j<i->u j=true)\/(r=-1/\∀ j,k<=j->j<m->u j=true)
variable {u:Nat->Bool}{m:Nat}
theorem jf.unique{k:Nat}{r s:Int}(h:jf u m k r)(g:jf u m k s):r=s:=by
 rcases h with⟨i,rfl,h1,h2,h3,h4⟩|⟨rfl,h1⟩
 ·rcases g with⟨i',rfl,g1,g2,g3,g4⟩|⟨rfl,g1⟩
  ·rcases Nat.lt_trichotomy i i' with c | c | c
   ·rw[g4 i h1 c]at h3;cases h3
   ·rw[c]
   ·rw[h4 i' g1 c]at g3;cases g3
  ·rw[g1 i h1 h2]at h3;cases h3
 ·rcases g with⟨i',rfl,g1,g2,g3,g4⟩|⟨rfl,g1⟩
  ·rw[h1 i' g1 g2]at g3;cases g3
  ·rfl
variable {B b l:Nat}{w:World}
theorem Ma(h:wJ B w b m l u)(hL:gU w)(n:Int)(hn:n<9223372036854775808):
 Calls Tryz.prog 160 #[.pointer (some ⟨b,0,none⟩),.int .i64 n] w fun e w'=>∃ r:Int,e=.returned (.int .i64 r)/\jf u m n.toNat r/\w'=w:=by
 obtain⟨ws,v,k,_⟩:=h.out;obtain⟨c0,c1,c2⟩:=k.cell;have hm:=k.few;have hf:=Js h hL n.toNat (by omega);clear k c1 c2;obtain⟨q,hq⟩:∃ q:Nat,n.toNat=q:=⟨_,rfl⟩;rw[hq]at hf ⊢;by_cases h0:0<=n
 ·obtain rfl:n=(q:Int):=by omega
  have hq0:(0:Int)<=(q:Int):=by omega
  clear hq h0 hn;go_enter Tryz.func160,Tryz.ntmps160;go_wp2_with (go_at_call 203;refine hf.mono ?_;rintro e w' ⟨r,rfl,hr,rfl⟩)
  ·go_ret
   exact⟨_,rfl,.inr ⟨rfl,fun j a b=>hr.used j a (by omega)⟩,rfl⟩
  ·go_ret
   exact⟨_,rfl,.inl ⟨r,rfl,hr.le,by omega,hr.free,hr.used⟩,rfl⟩
 ·obtain rfl:q=0:=by omega
  clear hq;have hf':Calls Tryz.prog 203 #[.pointer (some ⟨b,0,none⟩),.int .i64 0] w fun e w'=>∃ r:Nat,e=.returned (.int .i64 (r:Nat))/\qj u 0 r/\w'=w:=hf
  clear hf;go_enter Tryz.func160,Tryz.ntmps160;go_wp2_with (go_at_call 203;refine hf'.mono ?_;rintro e w' ⟨r,rfl,hr,rfl⟩)
  ·go_ret
   exact⟨_,rfl,.inr ⟨rfl,fun j a b=>hr.used j a (by omega)⟩,rfl⟩
  ·go_ret
   exact⟨_,rfl,.inl ⟨r,rfl,hr.le,by omega,hr.free,hr.used⟩,rfl⟩
structure UAt (w:World) (v:Value) (us:List Bool):Prop where
 row:w.ownsRow 0 4 1 v us.length (us.map Value.bool)
 form:∃ g c,v=.slice (some ⟨g,0,none⟩) us.length c
def E9 (us:List Bool) (n:Nat):Bool:=us.getD n true
variable {g c:Nat}
theorem UAt.cell{us:List Bool}(h:UAt w (.slice (some ⟨g,0,none⟩) us.length c) us)(j:Nat)(hj:j<us.length):w.cell? ⟨g,j,none⟩=some (.bool (E9 us j))/\w.frozen? ⟨g,j,none⟩=false:=by
 have h1:=h.row.cells (g:=g) rfl j (.bool us[j]) (by simp[hj]);have h2:E9 us j=us[j]:=by unfold E9;rw[aaN,aae hj];rfl
 rw[h2];refine⟨by simpa[Addr.add_lit] using h1,?_⟩;rcases h.row.2 with⟨e,_⟩|⟨g',cap,cur,e,_,hg,_⟩
 ·cases e
 ·injection e with e
  injection e with e
  injection e with e
  subst e;exact frozen_of_row w g j _ _ hg
theorem xE{a b:World}(h:a.grownBy b none):Kept a b:=⟨(Below.refl _ a).grown h (aac _) (fun _ e=>by cases e)⟩
variable {w1:World}{n:Nat}
theorem Cx{e:TypeId}{z:Value}(ow:w1.ownsRow w.heap.size e 1 (.slice (some ⟨w.heap.size,0,none⟩) n n) n (madeCells #[z] (n*1)).toList) :
  w1.heap[w.heap.size]? = some (.cells (List.replicate n z).toArray e):=by
 rcases ow.2 with⟨e,_⟩|⟨g,cap,cur,e,h1,h2,h3,h4,h5,h6⟩
 ·cases e
 ·injection e with e1 e2 e3
  injection e1 with e1
  injection e1 with e1
  subst e1;subst e3;rw[h2];rw[toList_madeCells_one,aay]at h6;have:cur=(List.replicate n z).toArray:=by
   apply Array.toList_inj.1;rw[<- h6,aaz (by simp;omega)]
  rw[this]
theorem Mc:(Tryz.prog.info? 53).map (·.size)=some 1:=by kernel_rfl
variable {ws:List Nat}
theorem copied{p:Option Addr}(k:rT B w1 b m l ws (.slice p ws.length c))(hk:Kept w w1)(hgw:w.heap.size<=g)(zs:List Value)(hz:zs.length=ws.length)(hg:w1.heap[g]? = some (.cells zs.toArray 53)) :
  ∃ w2,(Builtin.copy_ #[159,159] 3 #[.slice (some ⟨g,0,none⟩) ws.length ws.length,.slice p ws.length c]).run Tryz.prog w1=.ok (.int .i64 ws.length) w2/\w2.heap[g]? = some (.cells (aI ws).toArray 53)/\Kept w w2:=by
 by_cases h0:ws.length=0
 ·have e1:ws=[]:=List.eq_nil_of_length_eq_zero h0
  have e2:zs=[]:=List.eq_nil_of_length_eq_zero (by omega);subst e1 e2;refine⟨w1,run_copy_none (P:=Tryz.prog) w1 159 159 3 53 (some ⟨g,0,none⟩) p 0 0 0 c Tryz.underlying159 Mc rfl,hg,hk⟩
 ·obtain⟨g',c',e,_,_,_⟩:=k.oN 0 (by omega)
  injection e with e1 _ _
  subst e1;have h:=run_copy_row (P:=Tryz.prog) w1 159 159 3 53 g 0 ws.length ws.length ⟨g',0,none⟩ ws.length c zs.toArray 53 (aI ws) Tryz.underlying159 Mc hg (by rw[lQ];exact (Nat.min_self _).symm) (fun j v hj=>k.row.cells (g:=g') rfl j v hj) (by simp[aI,hz]) (by
   intro v hv
   simp only[aI,List.mem_map]at hv
   obtain⟨x,_,rfl⟩:=hv
   rfl)
  rw[lQ]at h;refine⟨_,h,?_,hk.setRow hgw _⟩;rw[setRow_heap w1 g _ _ 53 _ hg];simp[hz]
theorem gW(h:wJ B w b m l u):
 Calls Tryz.prog 58 #[.pointer (some ⟨b,0,none⟩)] w fun e w'=>∃ b',e=.returned (.pointer (some ⟨b',0,none⟩))/\wJ w.heap.size w' b' m l u/\Kept w w':=by
 obtain⟨ws,v,k,hu⟩:=h.out;obtain⟨i,hi,hz,hs,hby⟩:=info_parts EX;have hll:=k.long;obtain⟨w1,mk,ow,gw⟩:=run_makeSlice_full (P:=Tryz.prog) w w.heap.size 159 53 i _ 1 Tryz.underlying159 hi hz hs .i64 .i64 ws.length (by omega) (by rw[hby];omega) (by unfold maxLen;omega) (aac _);have k1:=xE gw;obtain⟨p,c,rfl⟩:=k.form;obtain⟨c0,c1,c2⟩:=k.cell;obtain⟨d0,d1,d2⟩:=(k.kept k1).cell;obtain⟨w2,cp,h2,k2⟩:=copied (k.kept k1) k1 (aac _) _ (by simp) (Cx ow);obtain⟨e0,e1,e2⟩:=(k.kept k2).cell;have HS:Hid (wJ w.heap.size (w2.alloc (.cells #[.int .i64 m,.int .i64 l,.slice (some ⟨w.heap.size,0,none⟩) ws.length ws.length] 161)).drew w2.heap.size m l u):=by
  have hlt:=(aaa.1 h2).1;refine⟨ws,_,⟨heap_alloc_new w2 _,⟨by simp[aI],.inr ⟨w.heap.size,ws.length,_,rfl,aac _,((Kept.refl w2).alloc _).block h2,aac _,by unfold maxLen;omega,by simp[aI],by rw[aay,aaz (by simp[aI])]⟩⟩,aa3 hlt,k.few,k.free,k.long,k.word⟩,hu⟩
 clear hu ow gw h hi hz hs hby h2 k k1;go_enter Tryz.func58,Tryz.ntmps58;go_wp2;go_region;go_wp2;go_ret;exact⟨_,rfl,HS.out,(k2.alloc _).drew⟩
structure Only (b g:Nat) (w w':World):Prop where
 below:∀ B,B<=b->B<=g->B<=w.heap.size->Below B w w'
 size:w.heap.size<=w'.heap.size
 block:∀ k o,w.heap[k]? = some o->k≠b->k≠g->w'.heap[k]? = some o
theorem Only.refl(b g:Nat)(w:World):Only b g w w:=⟨fun _ _ _ _=>Below.refl _ _,aac _,fun _ _ h _ _=>h⟩
variable {u:World}
theorem Only.drew{v:World}(h:Only b g u v):Only b g u v.drew:=⟨fun B h1 h2 h3=>(h.below B h1 h2 h3).drew,h.size,h.block⟩
theorem Only.UB(h:Only b g u w)(i:Nat)(v:Value):Only b g u (w.setCell ⟨b,i,none⟩ v):=
 ⟨fun B h1 h2 h3=>(h.below B h1 h2 h3).setCell h1 v,by simpa[World.setCell] using h.size,fun k o hk h1 h2=>(Below.heap_setCell w ⟨b,i,none⟩ v k h1).trans (h.block k o hk h1 h2)⟩
theorem Only.WH{g':Nat}(h:Only b g u w)(hg:g'=g\/u.heap.size<=g')(i:Nat)(v:Value):Only b g u (w.setCell ⟨g',i,none⟩ v):=
 ⟨fun B h1 h2 h3=>(h.below B h1 h2 h3).setCell (show B<=g' by omega) v,by simpa[World.setCell] using h.size,fun k o hk h1 h2=>(Below.heap_setCell w ⟨g',i,none⟩ v k (by
  have:=(aaa.1 hk).1
  show k≠g'
  omega)).trans (h.block k o hk h1 h2)⟩
structure SA (w:World) (b g m l:Nat) (u:Nat->Bool):Prop where
 out:∃ ws c,rT 0 w b m l ws (.slice (some ⟨g,0,none⟩) ws.length c)/\(∀ n,u n=aX ws n)/\0<ws.length
 few:m<=1024
variable {u:Nat->Bool}
theorem SA.at(h:SA w b g m l u):wJ 0 w b m l u:=by
 obtain⟨ws,c,h1,h2,_⟩:=h.out;exact⟨ws,_,h1,h2⟩
theorem SA.blocks(h:SA w b g m l u):(∃ cs fr,w.heap[b]? = some (.cells cs 161 fr))/\∃ cs fr,w.heap[g]? = some (.cells cs 53 fr):=by
 obtain⟨ws,c,h1,_,h3⟩:=h.out;refine⟨⟨_,_,h1.blk⟩,?_⟩;obtain⟨_,cs,t,fr,hg,rfl⟩:=h1.qR g rfl;exact⟨cs,fr,hg⟩
variable {w':World}
theorem SA.same(h:SA w b g m l u)(hb:w'.heap[b]? = w.heap[b]?)(hg:w'.heap[g]? = w.heap[g]?):SA w' b g m l u:=by
 obtain⟨ws,c,h1,h2,h3⟩:=h.out;refine⟨⟨ws,c,⟨hb.trans h1.blk,⟨h1.row.1,?_⟩,h1.xz,h1.few,h1.free,h1.long,h1.word⟩,h2,h3⟩,h.few⟩;rcases h1.row.2 with h4 | ⟨g',cap,cur,e,h5,h6,h7⟩
 ·exact .inl h4
 ·have e':=e
  injection e' with e1 _ _
  injection e1 with e1
  injection e1 with e1
  subst e1;exact .inr ⟨g,cap,cur,e,h5,hg.trans h6,h7⟩
theorem SA.kept(h:SA w b g m l u)(k:Kept w w'):SA w' b g m l u:=by
 obtain⟨⟨_,_,h1⟩,_,_,h2⟩:=h.blocks;exact h.same ((k.block h1).trans h1.symm) ((k.block h2).trans h2.symm)
theorem Ju(k:rT 0 w b m l ws (.slice (some ⟨g,0,none⟩) ws.length c))(hn:n<m):
 Calls Tryz.prog 103 #[.pointer (some ⟨b,0,none⟩),.int .i64 (n:Nat)] w fun e w'=>e=.returned (.tuple #[])/\∃ ws' g' c',rT 0 w' b m l ws' (.slice (some ⟨g',0,none⟩) ws'.length c')/\(∀ q,aX ws' q=aX ws q)/\n / 64<ws'.length/\Only b g w w'/\(g'=g\/w.heap.size<=g'):=by
 obtain⟨c0,c1,c2⟩:=k.cell;have hm:=k.few;have hl:=k.long;by_cases hj:n / 64<ws.length
 ·go_enter Tryz.func103,Tryz.ntmps103
  go_wp2;first | go_end0 | refine bodyPost_ret (results_none rfl _ _ _) rfl ?_
  exact⟨rfl,_,_,_,k,fun _=>rfl,hj,Only.refl _ _ _,.inl rfl⟩
 ·obtain⟨q,hq⟩:∃ q:Nat,n / 64+1=ws.length+q:=⟨n / 64+1-ws.length,by omega⟩
  obtain⟨v',w3,hr,ho,hg,g',c',rfl,hgg⟩:=sZ k.row q (by omega) (by omega) (aag _) 159;obtain⟨k3,o3,c3,f3⟩:=k.grow (aag _) hg ho (by simp;omega) (by
   intro x hx
   rcases aav.1 hx with hx | hx
   ·exact k.word x hx
   ·rw[List.eq_of_mem_replicate hx];decide)
  have hlen:n / 64<(ws++List.replicate q 0).length:=by simp;omega
  have HU:Hid (∀ n,aX (ws++List.replicate q 0) n=aX ws n):=fun n=>vQ _ _ _
  have hqq:((q:Nat):Int)=(n:Int) / 64+1-(ws.length:Int):=by omega
  rw[hqq]at hr;have hG:g'=g\/w.heap.size<=g':=by
   rcases hgg with e | e
   ·injection e with e;exact .inl e.symm
   ·exact .inr (by omega)
  have HO:Hid (Only b g w (w3.setCell ⟨b,2,none⟩ (.slice (some ⟨g',0,none⟩) (ws.length+q) c'))):=by
   refine Only.UB ⟨fun B h1 h2 h3=>(Below.refl B w).grown hg h3 (fun k e=>by have e':some g=some k:=e;obtain rfl:=aaq e';exact h2),hg.size,fun x o hx h1 h2=>(hg.block x (aaa.1 hx).1 (fun e=>h2 (by have e':some x=some g:=e;exact aaq e'))).trans hx⟩ 2 _
  have el:ws.length+q=(ws++List.replicate q 0).length:=by simp
  rw[el]at HO hr k3;have HG:Hid (g'=g\/w.heap.size<=g'):=hG;clear hqq ho hg k hgg hG el o3;generalize ws++List.replicate q 0=ws' at k3 hr c3 f3 hlen HU HO;have hlen':Hid (n / 64<ws'.length):=hlen;clear hlen;go_enter Tryz.func103,Tryz.ntmps103;go_wp2_with (at_builtin;refine wpList_append_run rfl _ _ _ _ _ _ rfl rfl rfl hr ?_);first | go_end0 | refine bodyPost_ret (results_none rfl _ _ _) rfl ?_
  exact⟨rfl,_,_,_,k3,HU.out,hlen'.out,HO.out,HG.out⟩
theorem Qv(h:SA w b g m l u)(n:Nat)(hn:n<m)(hu:u n=false)(hl0:0<l):
 Calls Tryz.prog 73 #[.pointer (some ⟨b,0,none⟩),.int .i64 (n:Nat)] w fun e w'=>e=.returned (.bool true)/\∃ g',SA w' b g' m (l-1) (aS u n)/\Only b g w w'/\(g'=g\/w.heap.size<=g'):=by
 have tq:Hid (m<=1024):=h.few;have hc:=A8 h.at n hn;rw[hu]at hc;obtain⟨ws0,c0,k0,WI,hne⟩:=h.out;have hr:=Ju k0 hn;have HW:Hid (∀ n,u n=aX ws0 n):=WI;clear WI h hu hne k0;go_enter Tryz.func73,Tryz.ntmps73;go_wp2_with (first
  | (go_at_call 102;refine hc.mono ?_;rintro e w' ⟨rfl,rfl⟩)
  | (go_at_call 103;refine hr.mono ?_;rintro e w1 ⟨rfl,ws,g',c',k,hws,hj,ho1,hg'⟩;obtain⟨g'',c'',e,hg,hcg,hfg⟩:=k.oN (n / 64) hj;injection e with e1 _ e3;injection e1 with e1;injection e1 with e1;subst e1;subst e3;obtain⟨c0,c1,c2⟩:=k.cell;have hll:=k.long;have hmm:=k.few;have Fa:Hid (Only b g _ w1):=ho1;have HG:Hid (g'=g\/_<=g'):=hg';clear ho1 hg'))
 have i1:(0:Int)<=(n:Int) / 64:=by omega
 have i2:(n:Int) / 64<(ws.length:Int):=by omega
 have i3:(0:Int)<=(n:Int) % 64:=by omega
 have i4:(n:Int) % 64<64:=by omega
 have WG:=k.frozen 1;go_region;rw[or_eq _ _ (k.word _ (List.getElem_mem hj))];have hlt:=TL ws[n / 64] n (k.word _ (List.getElem_mem hj));have HU:Hid (∀ q,aS u n q=aX (ws.set (n / 64) (ws[n / 64] ||| 2 ^ (n % 64))) q):=by
  intro q;rw[zP _ _ _ hj,aS,hws,HW.out]
 generalize ws[n / 64] ||| 2 ^ (n % 64)=x at hlt HU ⊢;obtain⟨k2,_⟩:=k.put (aag _) (n / 64) x hlt;have k3:=k2.drew;have o3:=(Fa.out.WH HG.out (n / 64) (.int .u64 x)).drew;generalize (World.setCell _ ⟨g',n / 64,none⟩ (.int .u64 x)).drew=W at k3 o3 ⊢;obtain⟨d0,d1,d2⟩:=k3.cell;have f1:=k3.frozen 1;obtain⟨k4,_⟩:=k3.count (l-1) (by have:=k3.free;omega);have o5:=o3.UB 1 (.int .i64 ((l-1:Nat):Int));have el:((l-1:Nat):Int)=(l:Int)-1:=by omega
 rw[el]at k4 o5;have hlm:l<=4096:=aad k3.free hmm;have HE:Hid (0<(ws.set (n / 64) x).length):=by show 0<_;rw[List.length_set];omega
 clear k2 o3 k hcg hfg c0 c1 c2 hr hc el i1 i2 i3 i4 WG HW hws Fa;go_wp2;go_ret;have e5:(ws.set (n / 64) x).length=ws.length:=List.length_set;exact⟨rfl,_,⟨⟨ws.set (n / 64) x,_,by rw[e5];exact k4,HU.out,HE.out⟩,tq.out⟩,o5,HG.out⟩
theorem UC(h:aX ws n=true):n / 64<ws.length:=by
 rcases Nat.lt_or_ge (n / 64) ws.length with q | q
 ·exact q
 ·unfold aX at h
  rw[aaN,List.getElem?_eq_none q]at h;simp at h
theorem Md(h:SA w b g m l u)(n:Nat)(hn:n<m)(hu:u n=true)(hl0:l<m):
 Calls Tryz.prog 143 #[.pointer (some ⟨b,0,none⟩),.int .i64 (n:Nat)] w fun e w'=>e=.returned (.bool true)/\SA w' b g m (l+1) (bQ u n)/\Only b g w w':=by
 have tq:=h.few;have hc:=xB h.at n (by omega);rw[hu]at hc;have hr:=EW h.at n hn;obtain⟨ws,c,k,hws,hne⟩:=h.out;have hj:n / 64<ws.length:=UC (by rw[<- hws];exact hu);have hmm:=k.few;have hll:=k.long;obtain⟨g',c',e,hg,hcg,hfg⟩:=k.oN (n / 64) hj;injection e with e1 _ e3
 injection e1 with e1
 injection e1 with e1
 subst e1;subst e3;obtain⟨c0,c1,c2⟩:=k.cell;have i1:(0:Int)<=(n:Int) / 64:=by omega
 have i2:(n:Int) / 64<(ws.length:Int):=by omega
 have i3:(0:Int)<=(n:Int) % 64:=by omega
 have i4:(n:Int) % 64<64:=by omega
 have WG:=k.frozen 1;have HW:Hid (∀ n,u n=aX ws n):=hws;have HE:Hid (0<ws.length):=hne;clear hws h hu hne;go_enter Tryz.func143,Tryz.ntmps143;go_wp2_with (first
  | (go_at_call 140;refine hr.mono ?_;rintro e w' ⟨rfl,rfl⟩)
  | (go_at_call 141;refine hc.mono ?_;rintro e w' ⟨rfl,rfl⟩))
 go_region;rw[Jo _ _ (k.word _ (List.getElem_mem hj))];have hlt:=Jp ws[n / 64] n (k.word _ (List.getElem_mem hj));have HU:Hid (∀ q,bQ u n q=aX (ws.set (n / 64) (ws[n / 64] &&& (18446744073709551615-2 ^ (n % 64)))) q):=by
  intro q;rw[E5 _ _ _ _ hj (fun j hj=>E8 _ n j hj),bQ,HW.out]
 generalize ws[n / 64] &&& (18446744073709551615-2 ^ (n % 64))=x at hlt HU ⊢;obtain⟨k2,_⟩:=k.put (aag _) (n / 64) x hlt;have k3:=k2.drew;have o3:=((Only.refl b g ‹World›).WH (.inl rfl) (n / 64) (.int .u64 x)).drew;generalize (World.setCell _ ⟨g,n / 64,none⟩ (.int .u64 x)).drew=W at k3 o3 ⊢;obtain⟨d0,d1,d2⟩:=k3.cell;have f1:=k3.frozen 1;obtain⟨k4,_⟩:=k3.count (l+1) hl0;have o5:=o3.UB 1 (.int .i64 ((l+1:Nat):Int));have el:((l+1:Nat):Int)=(l:Int)+1:=by omega
 rw[el]at k4 o5;clear k2 o3 k HW hcg hfg c0 c1 c2 hr hc el i1 i2 i3 i4 WG;go_wp2;go_ret;have e5:(ws.set (n / 64) x).length=ws.length:=List.length_set;exact⟨rfl,⟨⟨ws.set (n / 64) x,_,by rw[e5];exact k4,HU.out,by rw[e5];exact HE.out⟩,tq⟩,o5⟩
theorem Cy(h:SA w b g m l u):
 Calls Tryz.prog 58 #[.pointer (some ⟨b,0,none⟩)] w fun e w'=>∃ b' g',e=.returned (.pointer (some ⟨b',0,none⟩))/\SA w' b' g' m l u/\w.heap.size<=b'/\w.heap.size<=g'/\Kept w w':=by
 have tq:=h.few;obtain⟨ws,c,k,hu,hne⟩:=h.out;obtain⟨i,hi,hz,hs,hby⟩:=info_parts EX;have hll:=k.long;obtain⟨w1,mk,ow,gw⟩:=run_makeSlice_full (P:=Tryz.prog) w w.heap.size 159 53 i _ 1 Tryz.underlying159 hi hz hs .i64 .i64 ws.length (by omega) (by rw[hby];omega) (by unfold maxLen;omega) (aac _);have k1:=xE gw;obtain⟨c0,c1,c2⟩:=k.cell;obtain⟨d0,d1,d2⟩:=(k.kept k1).cell;obtain⟨w2,cp,h2,k2⟩:=copied (k.kept k1) k1 (aac _) _ (by simp) (Cx ow);obtain⟨e0,e1,e2⟩:=(k.kept k2).cell;have hk2:=k2.size;have HS:Hid (SA (w2.alloc (.cells #[.int .i64 m,.int .i64 l,.slice (some ⟨w.heap.size,0,none⟩) ws.length ws.length] 161)).drew w2.heap.size w.heap.size m l u):=by
  have hlt:=(aaa.1 h2).1;refine⟨⟨ws,_,⟨heap_alloc_new w2 _,⟨by simp[aI],.inr ⟨w.heap.size,ws.length,_,rfl,aag _,((Kept.refl w2).alloc _).block h2,aac _,by unfold maxLen;omega,by simp[aI],by rw[aay,aaz (by simp[aI])]⟩⟩,aag _,k.few,k.free,k.long,k.word⟩,hu,hne⟩,tq⟩
 clear hu ow gw h hi hz hs hby h2 k k1 hne;go_enter Tryz.func58,Tryz.ntmps58;go_wp2;go_region;go_wp2;go_ret;exact⟨_,_,rfl,HS.out,hk2,aac _,(k2.alloc _).drew⟩
def cnt (m:Nat) (u:Nat->Bool):Nat:=(List.range m).countP (fun i=>!u i)
theorem lS(m:Nat)(u:Nat->Bool):cnt (m+1) u=cnt m u+(if u m then 0 else 1):=by
 unfold cnt;rw[List.range_succ,List.countP_append];cases h:u m <;> simp[h]
theorem UD(m:Nat)(u:Nat->Bool):cnt m u<=m:=by
 induction m with
 | zero=>simp[cnt]
 | succ m ih=>rw[lS];split <;> omega
theorem vg{v:Nat->Bool}(h:∀ i,i<m->u i=v i):cnt m u=cnt m v:=by
 induction m with
 | zero=>simp[cnt]
 | succ m ih=>rw[lS,lS,ih (fun i hi=>h i (by omega)),h m (by omega)]
theorem tu(hn:n<m)(hu:u n=false):cnt m u=cnt m (aS u n)+1:=by
 induction m with
 | zero=>omega
 | succ m ih=>
  rw[lS,lS];by_cases e:n=m
  ·subst e
   rw[hu,vg (v:=aS u n) (fun i hi=>by unfold aS;rw[aai (by omega)])];simp[aS]
  ·rw[ih (by omega)]
   have e2:aS u n m=u m:=by unfold aS;rw[aai (by omega)]
   rw[e2];omega
theorem Me(hn:n<m)(hu:u n=true):cnt m (bQ u n)=cnt m u+1:=by
 have e:aS (bQ u n) n=u:=by
  funext k;unfold aS bQ;split
  ·rename_i e;rw[e,hu]
  ·rfl
 have:=tu (u:=bQ u n) hn (by unfold bQ;rw[aao rfl]);rw[e]at this;exact this
theorem nN(h:u n=true):aS u n=u:=by
 funext k;unfold aS;split
 ·rename_i e;rw[e,h]
 ·rfl
theorem lH(h:u n=false):bQ u n=u:=by
 funext k;unfold bQ;split
 ·rename_i e;rw[e,h]
 ·rfl
theorem tC(h:SA w b g m (cnt m u) u)(n:Nat)(hn:n<m):
 Calls Tryz.prog 73 #[.pointer (some ⟨b,0,none⟩),.int .i64 n] w fun e w'=>e=.returned (.bool (!u n))/\∃ g',SA w' b g' m (cnt m (aS u n)) (aS u n)/\Only b g w w'/\(g'=g\/w.heap.size<=g'):=by
 cases hu:u n with
 | true=>
  rw[nN hu];refine (Qr h.at n hn hu).mono ?_;rintro e w' ⟨rfl,rfl⟩;exact⟨rfl,g,h,Only.refl _ _ _,.inl rfl⟩
 | false=>
  have hc:=tu hn hu;refine (Qv h n hn hu (by omega)).mono ?_;rintro e w' ⟨rfl,g',h1,h2,h3⟩;refine⟨rfl,g',?_,h2,h3⟩;rw[show cnt m (aS u n)=cnt m u-1 by omega];exact h1
theorem Cz(h:SA w b g m (cnt m u) u)(n:Nat)(hn:n<m):
 Calls Tryz.prog 143 #[.pointer (some ⟨b,0,none⟩),.int .i64 n] w fun e w'=>e=.returned (.bool (u n))/\SA w' b g m (cnt m (bQ u n)) (bQ u n)/\Only b g w w':=by
 cases hu:u n with
 | false=>
  rw[lH hu];refine (L8 h.at n hn hu).mono ?_;rintro e w' ⟨rfl,rfl⟩;exact⟨rfl,h,Only.refl _ _ _⟩
 | true=>
  have hc:=Me hn hu;have hl:=UD m (bQ u n);refine (Md h n hn hu (by omega)).mono ?_;rintro e w' ⟨rfl,h1,h2⟩;refine⟨rfl,?_,h2⟩;rw[hc];exact h1
theorem wJ.YP(h:wJ B w b m l u)(h0:u 0=true)(hm:m<=1024):∃ g,SA w b g m l u/\B<=g/\B<=b:=by
 obtain⟨ws,v,k,hu⟩:=h.out;have hne:0<ws.length:=by
  rcases Nat.eq_zero_or_pos ws.length with e | e
  ·have e2:ws=[]:=List.eq_nil_of_length_eq_zero e
   rw[hu 0,e2]at h0;simp[aX]at h0
  ·exact e
 obtain⟨g,c,rfl,hg,_,_⟩:=k.oN 0 hne;refine⟨g,⟨⟨ws,c,⟨k.blk,⟨k.row.1,?_⟩,aag _,k.few,k.free,k.long,k.word⟩,hu,hne⟩,hm⟩,hg,k.xz⟩;rcases k.row.2 with h4 | ⟨g',cap,cur,e,h5,h6⟩
 ·exact .inl h4
 ·exact .inr ⟨g',cap,cur,e,aag _,h6⟩
