/- Joined. -/
import Derived.Test.YtifeihnhkbagpaaGreatDoorZav
import Derived.Lib.Overlaps
import Derived.BigQuiet
import Derived.Deep.QuietTactic
set_option maxHeartbeats 4000000
set_option maxRecDepth 1000000
namespace Go.Proofs.YtifeihnhkbagpaaGreatDoor.N
open ChangeShapes WideShapes ChangeAt RowKit
variable {w:World}{B g sz n c:Nat}{e:TypeId}{cs:List Value}
theorem Own.take(h:Own w B e sz (some ⟨g,0,none⟩) n c cs)(i:Nat)(hi:i<=n):Own w B e sz (some ⟨g,0,none⟩) i c (cs.take (i*sz)):=by
 have hlen:=h.rw.len;rcases h.cases with⟨hx,_⟩|⟨g',cur,hx,hBg,hg1,hg,hnc,hcm,hcs,ht⟩
 ·cases hx
 injection hx with hx
 injection hx with hx
 subst hx;have hle:i*sz<=n*sz:=Nat.mul_le_mul_right _ hi;refine⟨by rw[aam,hlen];omega,.inr ⟨g,c,cur,rfl,hBg,hg,by omega,hcm,hcs,?_⟩⟩;rw[<- ht,List.take_take];congr 1;omega
theorem Kept.drewN{w':World}(h:Kept w w')(n:Nat):Kept w (w'.drewN n):=⟨h.out.trans ⟨rfl,rfl,rfl,aac _,fun _ _=>rfl⟩⟩
theorem Am{v:Value}(h:w.ownsRow B e sz v n cs):∃ p c,v=.slice p n c:=by
 rcases h.2 with⟨rfl,rfl⟩|⟨g,cap,cur,rfl,_⟩
 ·exact⟨_,_,rfl⟩
 ·exact⟨_,_,rfl⟩
theorem gM{W:World}(h:w.grownBy W (some g))(cs:Array Value):w.grownBy (W.setRow g cs) (some g):=
 ⟨h.os,h.tape,h.output,by rw[setRow_size];exact h.size,fun i hi hne=>by rw[setRow_other _ _ _ _ (fun e=>hne (by rw[e]))];exact h.block i hi hne⟩
theorem SX(h:Own w B 3 1 (some ⟨g,0,none⟩) n c cs)(hB:B<=w.heap.size)(i:Nat)(hi:i<n)(hn:n<=100000)(vb m vc:Nat)(us:List Value)(jN:us.length=m)(hm2:m<=2)(hin:n<=i+m)(hv:∀ t u,us[t]? = some u->w.cell? ⟨vb,t,none⟩=some u)(h1:∀ u∈us,u.oneCell'=true):
 Calls Tryz.prog 149 #[.slice (some ⟨g,0,none⟩) n c,.int .i64 i,.int .i64 n,.slice (some ⟨vb,0,none⟩) m vc] w fun e w'=>∃ p' c',e=.returned (.slice p' (i+m) c')/\Own w' B 3 1 p' (i+m) c' (cs.take i++us)/\w.grownBy w' (some g):=by
 obtain⟨i0,hi0,hz0,hz1,hz2⟩:=info_parts info3;have OI:=h.take i (by omega);have hc:=h.rw.le;have hcm:=h.rw.small;have hij:¬ ((i:Int)=(n:Int)):=by omega
 have hlt:¬ ((i:Int)+(m:Int)<(n:Int)):=by omega
 have hvs:∀ j u,us[j]? = some u->w.cell? ((⟨vb,0,none⟩:Addr).add j)=some u:=fun j u hu=>by rw[Addr.add_lit,aaj];exact hv j u hu
 have hic:i<=c:=by omega
 have hin2:i<=n:=by omega
 clear hv h;go_enter Tryz.func149,Tryz.ntmps149;go_wp2_with (at_builtin;refine wpList_append_own _ rfl _ _ 94 rfl B 3 i0 _ 1 8 Tryz.underlying94 hi0 hz0 hz1 hz2 rfl (by decide) (.slice (some ⟨g,0,none⟩) i c) i (cs.take (i*1)) rfl OI.out ⟨vb,0,none⟩ m vc us rfl (by omega) hvs h1 (by unfold maxLen;omega) (by omega) hB ?_;intro v' w4 o4 g4 _;obtain⟨p',c',rfl⟩:=Am o4;have O4:Hid (Own w4 B 3 1 p' (i+m) c' (cs.take (i*1)++us)):=⟨o4⟩;have G4:Hid (w.grownBy w4 (some g)):=g4;clear o4 g4);go_ret;refine⟨_,_,rfl,?_,G4.out⟩;have:=O4.out;rwa [aay]at this
variable {i m vc:Nat}{q:Option Addr}{us:List Value}
theorem SY{W1:World}{R1:Array Value}(h:Own w B 3 1 (some ⟨g,0,none⟩) n c cs)(hn1:n=i+m+1)(hap:∀ ty,(Builtin.append_ #[94,94] ty #[.slice (some ⟨g,0,none⟩) i c,.slice q m vc]).run Tryz.prog w=.ok (.slice (some ⟨g,0,none⟩) (i+m) c) W1)(hg1:W1.heap[g]? = some (.cells R1 3 (0,0)))(OB:R1.toList.take (i+m)=cs.take i++us)(jN:us.length=m)(hs1:R1.size=c)(gr:w.grownBy W1 (some g)):
 Calls Tryz.prog 149 #[.slice (some ⟨g,0,none⟩) n c,.int .i64 i,.int .i64 n,.slice q m vc] w fun e w'=>∃ p' c',e=.returned (.slice p' (i+m) c')/\Own w' B 3 1 p' (i+m) c' (cs.take i++us)/\w.grownBy w' (some g):=by
 have hlen:=h.rw.len;rcases h.cases with⟨hx,_⟩|⟨g',cur,hx,hBg,hg2,hg,hnc,hcm,hcs,ht⟩
 ·cases hx
 injection hx with hx
 injection hx with hx
 subst hx;have hc63:c<=9223372036854775807:=by unfold maxLen at hcm;omega
 have hij:¬ ((i:Int)=(n:Int)):=by omega
 have hlt:(i:Int)+(m:Int)<(n:Int):=by omega
 have hic:i<=c:=by omega
 have hin2:i<=n:=by omega
 have him:i+m<=n:=by omega
 have ZX:¬ c=i+m:=by omega
 have hcl:∀ ty cc,(Builtin.clear_ #[94] ty #[.slice (some ⟨g,i+m,none⟩) (n-(i+m)) cc]).run Tryz.prog W1=.ok (.tuple #[]) (W1.setRow g (R1.toList.take (i+m)++[Value.int .i64 0]++R1.toList.drop (i+m+([Value.int .i64 0]).length)).toArray):=by
  intro ty cc;rw[show n-(i+m)=1 by omega];exact jo W1 94 3 ty (.int .i64 0) Tryz.underlying94 Tryz.zeroValue3 g (i+m) 1 cc (by decide) R1 3 hg1 [Value.int .i64 0] (by kernel_rfl) (by simp;omega) (by intro v hv;simp at hv;subst hv;rfl)
 have HF:Hid (Own (W1.setRow g (R1.toList.take (i+m)++[Value.int .i64 0]++R1.toList.drop (i+m+([Value.int .i64 0]).length)).toArray) B 3 1 (some ⟨g,0,none⟩) (i+m) c (cs.take i++us)):=by
  refine⟨by rw[aah,aam,hlen,jN];omega,.inr ⟨g,c,_,rfl,hBg,setRow_heap W1 g _ _ _ _ hg1,by omega,hcm,?_,?_⟩⟩
  ·simp[hs1];omega
  ·rw[aay,List.toList_toArray,aap,aaB (by simp[hs1];omega),OB]
 have HG:Hid (w.grownBy (W1.setRow g (R1.toList.take (i+m)++[Value.int .i64 0]++R1.toList.drop (i+m+([Value.int .i64 0]).length)).toArray) (some g)):=gM gr _;generalize (R1.toList.take (i+m)++[Value.int .i64 0]++R1.toList.drop (i+m+([Value.int .i64 0]).length)).toArray=R2 at hcl HF HG;clear hg1 OB jN hs1 gr h hg ht hcs hn1 hlen;go_enter Tryz.func149,Tryz.ntmps149;go_wp2_with (at_builtin;refine Lib.wpList_append_run _ rfl _ _ _ _ rfl _ _ rfl rfl _ _ (hap _) ?_);go_ret;exact⟨_,_,rfl,HF.out,HG.out⟩
variable {V:World}{j tot:Nat}
theorem Ao{R1:Array Value}(hg1:V.heap[g]? = some (.cells R1 3 (0,0)))(hs1:R1.size=c)(hcl:cs.length=n)(ht:tot=i+m+(n-j))(htc:tot<=c)(hsrc:∀ k,j<=k->k<n->R1[k]? = cs[k]?)(h1:∀ u∈cs,u.oneCell'=true)(ty:TypeId)(dc sc:Nat) :
    (Builtin.copy_ #[94,94] ty #[.slice (some ⟨g,i+m,none⟩) (tot-(i+m)) dc,.slice (some ⟨g,j,none⟩) (n-j) sc]).run Tryz.prog V=.ok (.int .i64 ((n-j:Nat):Int)) (V.setRow g (R1.toList.take (i+m)++cs.drop j++R1.toList.drop (i+m+(n-j))).toArray):=by
  obtain⟨i0,hi0,hz0,hzs,hzb⟩:=info_parts info3;have hsz:(Tryz.prog.info? 3).map (·.size)=some 1:=by rw[hi0];simp[hzs]
  have hmin:Nat.min (n-j) (tot-(i+m))=n-j:=by show min (n-j) (tot-(i+m))=n-j;omega
  have hd:(cs.drop j).length=n-j:=by rw[aaw,hcl]
  rw[bz V 94 94 ty 3 1 g (i+m) (tot-(i+m)) dc ⟨g,j,none⟩ (n-j) sc R1 3 (cs.drop j) Tryz.underlying94 hsz hg1 (by rw[hmin,hd];omega) (fun k v hk=>by
    rw[Addr.add_lit,cell_of_row V g _ _ _ _ hg1]
    rw[aaZ]at hk
    have hkn:=(aal.1 hk).1
    rw[hsrc (j+k) (by omega) (by omega)]
    exact hk) (by rw[hd];omega) (fun v hv=>h1 v (aaA hv)),hmin,hd]
  rfl
variable {F:World->World}
theorem S9{R1:Array Value}(h:Own w B 3 1 (some ⟨g,0,none⟩) n c cs)(hij:i<j)(hj:j<n)(hm:i+m<=j)(hz:j<=i+m+1)(hn:n<=100000)(jN:us.length=m)(h1:∀ u∈cs,u.oneCell'=true)(hF:∀ W:World,Kept w W->W.heap=w.heap->(∀ ty dl dc,m<=dl->(Builtin.copy_ #[94,94] ty #[.slice (some ⟨g,i,none⟩) dl dc,.slice q m vc]).run Tryz.prog W=.ok (.int .i64 m) (F W))/\(F W).heap[g]? = some (.cells R1 3 (0,0))/\w.grownBy (F W) (some g))(FB:R1.toList.take (i+m)=cs.take i++us)(hRs:R1.size=c)(hRk:∀ k,j<=k->k<n->R1[k]? = cs[k]?):
 Calls Tryz.prog 149 #[.slice (some ⟨g,0,none⟩) n c,.int .i64 i,.int .i64 j,.slice q m vc] w fun e w'=>∃ p' c',e=.returned (.slice p' (i+m+(n-j)) c')/\Own w' B 3 1 p' (i+m+(n-j)) c' (cs.take i++us++cs.drop j)/\w.grownBy w' (some g):=by
 have hlen:=h.rw.len;rw[aay]at hlen;rcases h.cases with⟨hx,_⟩|⟨g',cur,hx,hBg,hg2,hg,hnc,hcm,hcs,ht⟩
 ·cases hx
 injection hx with hx
 injection hx with hx
 subst hx;have hc63:c<=9223372036854775807:=by unfold maxLen at hcm;omega
 obtain⟨T,hT⟩:∃ T,T=i+m+(n-j):=⟨_,rfl⟩;have a1:¬ ((i:Int)=(j:Int)):=by omega
 have a2:¬ ((j:Int)=(n:Int)):=by omega
 have a3:IntKind.i64.wrap ((i:Int)+(m:Int))=(i:Int)+(m:Int):=by rw[IntKind.wrap_i64];omega
 have a4:IntKind.i64.wrap ((i:Int)+(m:Int)+((n-j:Nat):Int))=(T:Int):=by rw[IntKind.wrap_i64];omega
 have a5:¬ ((c:Int)<(T:Int)):=by omega
 have a6:(i:Int)+(m:Int)<=(j:Int):=by omega
 have a7:i<=c:=by omega
 have a8:j<=c:=by omega
 have a9:¬ c=j:=by omega
 have sK:¬ c=i:=by omega
 have a11:¬ c=i+m:=by omega
 have a12:i<=j:=by omega
 have ZY:j<=n:=by omega
 have ZZ:((i:Int)+(m:Int)).toNat=i+m:=by omega
 have a15:(0:Int)<=(i:Int)+(m:Int):=by omega
 have mixed:Tryz.prog.follows .mixedOrders=true:=by kernel_rfl
 have a16:(i:Int)<=(T:Int):=by omega
 have a17:(i:Int)+(m:Int)<=(T:Int):=by omega
 have Wz:T<=c:=by omega
 have a19:(T:Int)<=(n:Int):=by omega
 have hdl:m<=T-i:=by omega
 have uO:∀ V:World,V.heap[g]? = some (.cells R1 3 (0,0))->∀ ty dc sc,_:=fun V hV ty dc sc=>Ao (V:=V) (i:=i) (j:=j) (m:=m) (tot:=T) (n:=n) hV hRs hlen hT Wz hRk h1 ty dc sc
 obtain⟨R2,hR2⟩:∃ R2:Array Value,R2=(R1.toList.take (i+m)++cs.drop j++R1.toList.drop (i+m+(n-j))).toArray:=⟨_,rfl⟩;rw[<- hR2]at uO;have yj:R2.size=c:=by rw[hR2];simp[hlen];omega
 have DX:R2.toList.take T=cs.take i++us++cs.drop j:=by
  rw[hR2,List.toList_toArray,aaB (by simp[hlen,hRs];omega),FB]
 have HO:Hid (∀ (V:World) (R:Array Value),V.heap[g]? = some (.cells R 3 (0,0))->R.size=c->R.toList.take T=R2.toList.take T->Own V B 3 1 (some ⟨g,0,none⟩) T c (cs.take i++us++cs.drop j)):=fun V R hV aab Vy=>
  ⟨by simp[hlen,jN];omega,.inr ⟨g,c,R,rfl,hBg,hV,by omega,hcm,by omega,by rw[aay,Vy,DX]⟩⟩
 have HT:Hid (T=i+m+(n-j)):=hT;have hcl0:T=n->∀ (V:World) ty A cc,(Builtin.clear_ #[94] ty #[.slice A 0 cc]).run Tryz.prog V=.ok (.tuple #[]) V:=fun _ V ty A cc=>by cases A <;> simp[Builtin.clear_,run_underlying Tryz.underlying94]
 have Gf:T+1=n->∀ (V:World),V.heap[g]? = some (.cells R2 3 (0,0))->∀ ty cc,(Builtin.clear_ #[94] ty #[.slice (some ⟨g,T,none⟩) 1 cc]).run Tryz.prog V=.ok (.tuple #[]) (V.setRow g (R2.toList.take T++[Value.int .i64 0]++R2.toList.drop (T+([Value.int .i64 0]).length)).toArray):=fun _ V hV ty cc=>
  jo V 94 3 ty (.int .i64 0) Tryz.underlying94 Tryz.zeroValue3 g T 1 cc (by decide) R2 3 hV [Value.int .i64 0] (by kernel_rfl) (by simp;omega) (by intro v hv;simp at hv;subst hv;rfl)
 have hTn:T=n\/T+1=n:=by omega
 have HS2:Hid (R2.size=c):=yj;rw[<- hT];clear h FB hRs hRk jN hlen hT hz hm ht hcs hg hR2 yj DX;go_enter Tryz.func149,Tryz.ntmps149;go_wp2;go_quiet (fail);obtain⟨W,hW⟩:∃ W,w.drewN nq=W:=⟨_,rfl⟩;obtain⟨f1,f2,f3⟩:=hF W (by rw[<- hW];exact (Kept.refl w).drewN nq) (by rw[<- hW,World.heap_drewN]);rw[hW];clear hW hF;have f1':=fun ty dc=>f1 ty (T-i) dc hdl
 have ht2:=uO (F W) f2;have ht3:=uO (F W).drew f2;have b2:((F W).drew.setRow g R2).heap[g]? = some (.cells R2 3 (0,0)):=setRow_heap (F W).drew _ _ _ _ _ f2;have g2:w.grownBy ((F W).drew.setRow g R2) (some g):=gM (W:=(F W).drew) ⟨f3.os,f3.tape,f3.output,f3.size,f3.block⟩ _;generalize F W=V at *;clear f1 uO;go_wp2_with (at_builtin;refine wpList_copy_runI _ rfl _ _ 94 94 rfl _ _ rfl rfl (f1' _ _) ?_);go_region_law_o (refine step_copy_runI rfl _ _ 94 94 rfl (.slice (some ⟨g,i+m,none⟩) (T-(i+m)) (c-(i+m))) (.slice (some ⟨g,j,none⟩) (n-j) (c-j)) (by simp[Act.eval,Act.put]) (by simp[Act.eval,Act.put]) (ht3 3 (c-(i+m)) (c-j)) ?_);rcases hTn with e | e
 ·subst e
  have hc0:=hcl0 rfl;have HB:Hid (((V.drew).setRow g R2).heap[g]? = some (.cells R2 3 (0,0))):=b2;have HG:Hid (w.grownBy (V.drew.setRow g R2) (some g)):=g2;clear Gf hcl0 b2 g2;by_cases hcT:c=T
  ·subst hcT
   go_wp2;go_ret;exact⟨_,_,rfl,by simpa using HO.out _ _ HB.out HS2.out rfl,HG.out⟩
  ·go_wp2
   go_ret;exact⟨_,_,rfl,by simpa using HO.out _ _ HB.out HS2.out rfl,HG.out⟩
 ·have hc1:=Gf e _ b2
  have e0:n-T=1:=by omega
  have e2:¬ c=T:=by omega
  have HB:Hid (((V.drew.setRow g R2).setRow g (R2.toList.take T++[Value.int .i64 0]++R2.toList.drop (T+([Value.int .i64 0]).length)).toArray).heap[g]? = some (.cells (R2.toList.take T++[Value.int .i64 0]++R2.toList.drop (T+([Value.int .i64 0]).length)).toArray 3 (0,0))):=setRow_heap _ _ _ _ _ _ b2;have HG:Hid (w.grownBy ((V.drew.setRow g R2).setRow g (R2.toList.take T++[Value.int .i64 0]++R2.toList.drop (T+([Value.int .i64 0]).length)).toArray) (some g)):=gM g2 _;have HR:Hid ((R2.toList.take T++[Value.int .i64 0]++R2.toList.drop (T+([Value.int .i64 0]).length)).toArray.size=c/\(R2.toList.take T++[Value.int .i64 0]++R2.toList.drop (T+([Value.int .i64 0]).length)).toArray.toList.take T=R2.toList.take T):=⟨by have:=HS2.out;simp[this];omega,by rw[List.toList_toArray,aap,aaB (by have:=HS2.out;simp[this];omega)]⟩;generalize (R2.toList.take T++[Value.int .i64 0]++R2.toList.drop (T+([Value.int .i64 0]).length)).toArray=R3 at hc1 HB HG HR;clear Gf hcl0 b2 g2 e;go_wp2;go_ret;exact⟨_,_,rfl,by simpa using HO.out _ _ HB.out HR.out.1 HR.out.2,HG.out⟩
variable {vb:Nat}
theorem OC(h:Own w B 3 1 (some ⟨g,0,none⟩) n c cs)(hB:B<=w.heap.size)(hij:i<j)(hj:j<n)(hT0:c<i+m+(n-j))(hn:n<=99999)(jN:us.length=m)(hm2:m<=2)(hv:∀ t u,us[t]? = some u->w.cell? ⟨vb,t,none⟩=some u)(h1:∀ u∈cs,u.oneCell'=true)(h1v:∀ u∈us,u.oneCell'=true):
 Calls Tryz.prog 149 #[.slice (some ⟨g,0,none⟩) n c,.int .i64 i,.int .i64 (j:Nat),.slice (some ⟨vb,0,none⟩) m vc] w fun e w'=>∃ p' c',e=.returned (.slice p' (i+m+(n-j)) c')/\Own w' B 3 1 p' (i+m+(n-j)) c' (cs.take i++us++cs.drop j)/\w.grownBy w' (some g):=by
  have hlen:=h.rw.len;rw[aay]at hlen;rcases h.cases with⟨hx,_⟩|⟨g',cur,hx,hBg,hg2,hg,hnc,hcm,hcs,ht⟩
  · cases hx
  injection hx with hx
  injection hx with hx
  subst hx;obtain⟨i0,hi0,hz0,hzs,hzb⟩:=info_parts info3;have hsz:(Tryz.prog.info? 3).map (·.size)=some 1:=by rw[hi0];simp[hzs]
  have hcell:∀ (j:Nat) (v:Value),cs[j]? = some v->w.cell? ⟨g,j,none⟩=some v:=by
    intro j v hj;rw[cell_of_row w g j _ _ _ hg];rw[<- ht,aaT]at hj;split at hj
    · simpa using hj
    · cases hj
  have hc63:c<=9223372036854775807:=by unfold maxLen at hcm;omega
  obtain⟨T,hT⟩:∃ T,T=i+m+(n-j):=⟨_,rfl⟩;have a1:¬ ((i:Int)=(j:Int)):=by omega
  have a2:¬ ((j:Int)=(n:Int)):=by omega
  have a3:IntKind.i64.wrap ((i:Int)+(m:Int))=(i:Int)+(m:Int):=by rw[IntKind.wrap_i64];omega
  have a4:IntKind.i64.wrap ((i:Int)+(m:Int)+((n-j:Nat):Int))=(T:Int):=by rw[IntKind.wrap_i64];omega
  have a5:(c:Int)<(T:Int):=by omega
  have a7:i<=c:=by omega
  have a8:j<=c:=by omega
  have a9:¬ c=j:=by omega
  have sK:¬ c=i:=by omega
  have a12:i<=j:=by omega
  have ZY:j<=n:=by omega
  have ZZ:((i:Int)+(m:Int)).toNat=i+m:=by omega
  have a15:(0:Int)<=(i:Int)+(m:Int):=by omega
  have a16:(i:Int)<=(T:Int):=by omega
  have a17:(i:Int)+(m:Int)<=(T:Int):=by omega
  have Wz:IntKind.i64.wrap ((T:Int)-(i:Int))=((T-i:Nat):Int):=by rw[IntKind.wrap_i64];omega
  have mixed:Tryz.prog.follows .mixedOrders=true:=by kernel_rfl
  have HT:Hid (T=i+m+(n-j)):=hT;have HTn:Hid (T<=100001/\i<T/\i+m<=T/\c<T):=⟨by omega,by omega,by omega,by omega⟩;rw[<- hT];clear h hT ht hcs hT0;go_enter Tryz.func149,Tryz.ntmps149;go_wp2;go_quiet (fail);obtain⟨W,hW⟩:∃ W,w.drewN nq=W:=⟨_,rfl⟩;have hWh:W.heap=w.heap:=by rw[<- hW,World.heap_drewN]
  have kW:Kept w W:=by rw[<- hW];exact (Kept.refl w).drewN nq
  rw[hW];clear hW;obtain⟨q1,q2,q3,q4⟩:=HTn.out;have hold:(Builtin.firstCells i0.size i (.slice (some ⟨g,0,none⟩) i c)).run Tryz.prog W.drew=.ok (cs.take i).toArray W.drew:=by
    rw[hzs];exact run_firstCells_some W.drew 1 i ⟨g,0,none⟩ i c (cs.take i) (by rw[aam];omega) (fun j v hj=>by
      rw[Addr.add_lit,aaj]
      rw[aaT]at hj
      split at hj
      · exact kW.cell (hcell j v hj)
      · cases hj)
  have hrz:∀ ty,(Builtin.append_ #[94,3] ty #[.slice (some ⟨g,0,none⟩) i c,.int .i64 ((T-i:Nat):Int)]).run Tryz.prog W=_:=fun ty=>
    Lib.run_append_grow_zeros W 94 3 ty 3 i0 _ .i64 .i64 Tryz.underlying94 Tryz.underlying3 hi0 hz0 (some ⟨g,0,none⟩) i c (cs.take i) hold (T-i) (by omega) (by omega) (by omega) (by omega) (by rw[hzb];omega) (by rw[hzb,show i+(T-i)=T by omega];exact growslice_fits (by omega) (by omega))
  rw[show i+(T-i)=T by omega]at hrz;obtain⟨hG,hG2⟩:=Vf W T c 3 (by omega);generalize grownCap W T c 3=G at hrz hG hG2;obtain⟨ROW,hROW⟩:∃ ROW:Array Value,ROW=(cs.take i).toArray++Builtin.zeroCells (Value.int .i64 0).cells (T-i)++Builtin.zeroCells (Value.int .i64 0).cells (G-T):=⟨_,rfl⟩;rw[<- hROW]at hrz;have hRs:ROW.size=G:=by rw[hROW,Array.size_append,Array.size_append,lY _ 1 _ rfl,lY _ 1 _ rfl];simp[hlen];omega
  have FB:ROW.toList.take i=cs.take i:=by
    rw[hROW,Array.toList_append,Array.toList_append,aap,aaB (by simp[hlen];omega)]
  obtain⟨R2,hR2⟩:∃ R2:Array Value,R2=(ROW.toList.take i++us++ROW.toList.drop (i+us.length)).toArray:=⟨_,rfl⟩;have yj:R2.size=G:=by rw[hR2];simp;omega
  obtain⟨R3,Rt⟩:∃ R3:Array Value,R3=(R2.toList.take (i+m)++cs.drop j++R2.toList.drop (i+m+(cs.drop j).length)).toArray:=⟨_,rfl⟩;have Ru:R3.size=G:=by rw[Rt];simp[hlen];omega
  have Nk:R3.toList.take T=cs.take i++us++cs.drop j:=by
    have ec:(cs.take i).length=i:=by simp[hlen];omega
    have e5:(cs.take i++us++ROW.toList.drop (i+us.length)).take (i+m)=cs.take i++us:=aaB (by simp only[aah,ec,jN]);have eT:=HT.out;rw[Rt,hR2,FB];show List.take _ (List.take _ (_++_++_)++_++_)=_;rw[e5,aaB (by simp[hlen,jN];omega)]
  have kA:Kept w (W.alloc (.cells ROW 3)).drew:=(kW.alloc _).drew;have hcpA:∀ ty dc,(Builtin.copy_ #[94,94] ty #[.slice (some ⟨W.heap.size,i,none⟩) (T-i) dc,.slice (some ⟨vb,0,none⟩) m vc]).run Tryz.prog (W.alloc (.cells ROW 3)).drew=.ok (.int .i64 m) ((W.alloc (.cells ROW 3)).drew.setRow W.heap.size R2):=fun ty dc=>by
    have hq:(W.alloc (.cells ROW 3)).drew.heap[W.heap.size]? = some (.cells ROW 3 (0,0)):=heap_alloc_new W _;have hmin:Nat.min m (T-i)=m:=by show min m (T-i)=m;omega
    rw[bz (W.alloc (.cells ROW 3)).drew 94 94 ty 3 1 W.heap.size i (T-i) dc ⟨vb,0,none⟩ m vc ROW 3 us Tryz.underlying94 hsz hq (by rw[hmin,jN];omega) (fun j v hj=>by rw[Addr.add_lit,aaj];exact kA.cell (hv j v hj)) (by omega) h1v,hmin,<- hR2];rfl
  have kB:Kept w ((W.alloc (.cells ROW 3)).drew.setRow W.heap.size R2):=kA.setRow kW.size _;have b2:((W.alloc (.cells ROW 3)).drew.setRow W.heap.size R2).heap[W.heap.size]? = some (.cells R2 3 (0,0)):=setRow_heap _ _ _ _ _ _ (heap_alloc_new W _);have hcpB:∀ ty dc sc,(Builtin.copy_ #[94,94] ty #[.slice (some ⟨W.heap.size,i+m,none⟩) (T-(i+m)) dc,.slice (some ⟨g,j,none⟩) (n-j) sc]).run Tryz.prog ((W.alloc (.cells ROW 3)).drew.setRow W.heap.size R2).drew=.ok (.int .i64 ((n-j:Nat):Int)) (((W.alloc (.cells ROW 3)).drew.setRow W.heap.size R2).drew.setRow W.heap.size R3):=fun ty dc sc=>by
    have eT:=HT.out;have hmin:Nat.min (n-j) (T-(i+m))=n-j:=by show min (n-j) (T-(i+m))=n-j;omega
    rw[bz ((W.alloc (.cells ROW 3)).drew.setRow W.heap.size R2).drew 94 94 ty 3 1 W.heap.size (i+m) (T-(i+m)) dc ⟨g,j,none⟩ (n-j) sc R2 3 (cs.drop j) Tryz.underlying94 hsz b2 (by rw[hmin];simp[hlen]) (fun k v hk=>by rw[Addr.add_lit];exact kB.drew.cell (hcell _ _ (by rwa [aaZ]at hk))) (by simp[hlen];omega) (fun v hv=>h1 v (aaA hv)),hmin,<- Rt];rfl
  have HF:Hid (Own (((W.alloc (.cells ROW 3)).drew.setRow W.heap.size R2).drew.setRow W.heap.size R3) B 3 1 (some ⟨W.heap.size,0,none⟩) T G (cs.take i++us++cs.drop j)):=
    ⟨by have eT:=HT.out;simp[hlen,jN];omega,.inr ⟨_,_,R3,rfl,by rw[hWh];exact hB,setRow_heap ((W.alloc (.cells ROW 3)).drew.setRow W.heap.size R2).drew _ _ _ _ _ b2,hG,hG2,by omega,by rw[aay];exact Nk⟩⟩
  have HK:Hid (Kept w (((W.alloc (.cells ROW 3)).drew.setRow W.heap.size R2).drew.setRow W.heap.size R3)):=kB.drew.setRow kW.size _;have hG63:G<=9223372036854775807:=by unfold maxLen at hG2;omega
  have hGi:¬ (G=i):=by omega
  have hGim:¬ (G=i+m):=by have:=HT.out;omega
  have TT:Hid (T<=G):=hG;generalize W.heap.size=z at *;clear hold hROW hRs FB hR2 yj Rt Ru Nk hsz hi0 hz0 hzs hzb h1 hv h1v hlen jN kA kB b2 kW hWh q1 q2 q3 q4 hG hG2;go_wp2_with (first
    | (at_builtin;refine Lib.wpList_append_run _ rfl _ _ _ _ rfl _ _ rfl rfl _ _ (hrz _) ?_)
    | (at_builtin;refine wpList_copy_runI _ rfl _ _ 94 94 rfl _ _ rfl rfl (hcpA _ _) ?_))
  go_region_law_o (refine step_copy_runI rfl _ _ 94 94 rfl (.slice (some ⟨z,i+m,none⟩) (T-(i+m)) (G-(i+m))) (.slice (some ⟨g,j,none⟩) (n-j) (c-j)) (by simp[Act.eval,Act.put]) (by simp[Act.eval,Act.put]) (hcpB 3 (G-(i+m)) (c-j)) ?_);go_wp2;go_ret;exact⟨_,_,rfl,by simpa using HF.out,HK.out.grown _⟩
theorem KT{rE:Array Value}(h:Own w B 3 1 (some ⟨g,0,none⟩) n c cs)(hij:i<j)(hj:j<n)(hT0:i+m+(n-j)<=c)(hm:j<i+m)(hn:n<=99999)(jN:us.length=m)(hm2:m<=2)(hvb:w.heap[vb]? = some (.cells rE 3 (0,0)))(OD:rE.toList.take m=us)(hne:vb≠g)(h1:∀ u∈cs,u.oneCell'=true)(h1v:∀ u∈us,u.oneCell'=true):
 Calls Tryz.prog 149 #[.slice (some ⟨g,0,none⟩) n c,.int .i64 i,.int .i64 j,.slice (some ⟨vb,0,none⟩) m vc] w fun e w'=>∃ p' c',e=.returned (.slice p' (i+m+(n-j)) c')/\Own w' B 3 1 p' (i+m+(n-j)) c' (cs.take i++us++cs.drop j)/\w.grownBy w' (some g):=by
  have hlen:=h.rw.len;rw[aay]at hlen;rcases h.cases with⟨hx,_⟩|⟨g',cur,hx,hBg,hg2,hg,hnc,hcm,hcs,ht⟩
  · cases hx
  injection hx with hx
  injection hx with hx
  subst hx;rw[aay]at hcs ht;obtain⟨i0,hi0,hz0,hzs,hzb⟩:=info_parts info3;have hsz:(Tryz.prog.info? 3).map (·.size)=some 1:=by rw[hi0];simp[hzs]
  have hc63:c<=9223372036854775807:=by unfold maxLen at hcm;omega
  obtain⟨T,hT⟩:∃ T,T=i+m+(n-j):=⟨_,rfl⟩;have a1:¬ ((i:Int)=(j:Int)):=by omega
  have a2:¬ ((j:Int)=(n:Int)):=by omega
  have a3:IntKind.i64.wrap ((i:Int)+(m:Int))=(i:Int)+(m:Int):=by rw[IntKind.wrap_i64];omega
  have a4:IntKind.i64.wrap ((i:Int)+(m:Int)+((n-j:Nat):Int))=(T:Int):=by rw[IntKind.wrap_i64];omega
  have a5:¬ (c:Int)<(T:Int):=by omega
  have a6:¬ (i:Int)+(m:Int)<=(j:Int):=by omega
  have a7:i<=c:=by omega
  have a8:j<=c:=by omega
  have a9:¬ c=j:=by omega
  have sK:¬ c=i:=by omega
  have a11:¬ c=i+m:=by omega
  have a12:i<=j:=by omega
  have ZY:j<=n:=by omega
  have ZZ:((i:Int)+(m:Int)).toNat=i+m:=by omega
  have a15:(0:Int)<=(i:Int)+(m:Int):=by omega
  have a16:(i:Int)<=(T:Int):=by omega
  have a17:(i:Int)+(m:Int)<=(T:Int):=by omega
  have Wz:T<=c:=by omega
  have mixed:Tryz.prog.follows .mixedOrders=true:=by kernel_rfl
  have hvs:rE.size≠0:=by
    have:=congrArg List.length OD;simp only[aam,Array.length_toList,jN]at this;omega
  obtain⟨R1,OB⟩:∃ R1:Array Value,R1=(cur.toList.take (i+m)++cs.drop j++cur.toList.drop (i+m+(n-j))).toArray:=⟨_,rfl⟩;have aaf:R1.size=c:=by rw[OB];simp[hlen];omega
  have hcp1:∀ (V:World),V.heap=w.heap->∀ ty dc sc,(Builtin.copy_ #[94,94] ty #[.slice (some ⟨g,i+m,none⟩) (T-(i+m)) dc,.slice (some ⟨g,j,none⟩) (n-j) sc]).run Tryz.prog V=.ok (.int .i64 ((n-j:Nat):Int)) (V.setRow g R1):=fun V hV ty dc sc=>by
    rw[OB];exact Ao (V:=V) (tot:=T) (by rw[hV];exact hg) hcs hlen hT Wz (fun k h1 h2=>by rw[<- ht,aaT,aao h2];simp) h1 ty dc sc
  obtain⟨R2,hR2⟩:∃ R2:Array Value,R2=(R1.toList.take i++us++R1.toList.drop (i+us.length)).toArray:=⟨_,rfl⟩;have yj:R2.size=c:=by rw[hR2];simp;omega
  have hcp2:∀ (V:World),V.heap=w.heap->∀ ty dc,(Builtin.copy_ #[94,94] ty #[.slice (some ⟨g,i,none⟩) (T-i) dc,.slice (some ⟨vb,0,none⟩) m vc]).run Tryz.prog (V.setRow g R1)=.ok (.int .i64 m) ((V.setRow g R1).setRow g R2):=fun V hV ty dc=>by
    have hq:(V.setRow g R1).heap[g]? = some (.cells R1 3 (0,0)):=setRow_heap _ _ _ _ _ _ (by rw[hV];exact hg);have hq2:(V.setRow g R1).heap[vb]? = some (.cells rE 3 (0,0)):=by rw[setRow_other _ _ _ _ hne,hV];exact hvb
    have hmin:Nat.min m (T-i)=m:=by show min m (T-i)=m;omega
    rw[bz (V.setRow g R1) 94 94 ty 3 1 g i (T-i) dc ⟨vb,0,none⟩ m vc R1 3 us Tryz.underlying94 hsz hq (by rw[hmin,jN];omega) (fun k v hk=>by
      rw[Addr.add_lit,aaj,cell_of_row _ vb _ _ _ _ hq2]
      rw[<- OD,aaT]at hk
      split at hk
      · simpa using hk
      · cases hk) (by omega) h1v,hmin,<- hR2]
    rfl
  have DX:R2.toList.take T=cs.take i++us++cs.drop j:=by
    have e1:R1.toList.take i=cs.take i:=by
      rw[OB,List.toList_toArray,aap,List.take_append_of_le_length (by simp;omega),List.take_take,<- ht,List.take_take];congr 1;omega
    have e2:R1.toList.drop (i+us.length)=cs.drop j++cur.toList.drop (i+m+(n-j)):=by
      rw[OB,List.toList_toArray,aap,List.drop_left' (by simp;omega)]
    rw[hR2,List.toList_toArray,e1,e2,<- aap,aaB (by simp[hlen,jN];omega)]
  have hov:∀ (V:World),V.heap=w.heap->∀ lb cb,(callFunc 185 #[.slice (some ⟨g,i+m,none⟩) lb cb,.slice (some ⟨vb,0,none⟩) m vc]).run Tryz.prog V=.ok (.value (.bool false)) V:=fun V hV lb cb=>by
    have q1:V.heap[g]? = some (.cells cur 3 (0,0)):=by rw[hV];exact hg
    have q2:V.heap[vb]? = some (.cells rE 3 (0,0)):=by rw[hV];exact hvb
    rw[run_callFunc_extern Tryz.func185 (by kernel_rfl) (by kernel_rfl) (by kernel_rfl) (e:=Extern.SlicesOverlaps.overlaps #[94,94] #[4]) (by kernel_rfl),
      Lib.run_overlaps_apart V 94 4 3 Tryz.underlying94 1 (fun w=>by simp[sizeOf,typeInfo,hi0,hzs]) ⟨g,i+m,none⟩ ⟨vb,0,none⟩ lb cb m vc (Ne.symm hne) 3 3 cur.size rE.size (by simp[World.shape?,q1]) (by simp[World.shape?,q2]) hvs (frozen_of_row V g _ _ _ q1) (frozen_of_row V g _ _ _ q1)]
    rfl
  have HF:Hid (∀ V:World,V.heap=w.heap->Own ((V.setRow g R1).setRow g R2) B 3 1 (some ⟨g,0,none⟩) T c (cs.take i++us++cs.drop j)):=fun V hV=>
    ⟨by simp[hlen,jN];omega,.inr ⟨g,c,R2,rfl,hBg,setRow_heap _ _ _ _ _ _ (setRow_heap _ _ _ _ _ _ (by rw[hV];exact hg)),by omega,hcm,by omega,by rw[aay];exact DX⟩⟩
  have HT:Hid (T=i+m+(n-j)):=hT;rw[<- hT];clear h hT ht hcs hT0 OB aaf hR2 yj DX jN h1 h1v hvb OD hlen hm hg hsz hi0 hz0 hzs hzb;go_enter Tryz.func149,Tryz.ntmps149;go_wp2;go_quiet (fail);obtain⟨W,hW⟩:∃ W,w.drewN nq=W:=⟨_,rfl⟩;have hWh:W.heap=w.heap:=by rw[<- hW,World.heap_drewN]
  have kW:Kept w W:=by rw[<- hW];exact (Kept.refl w).drewN nq
  rw[hW];clear hW;have ho:=hov W hWh;have c1:=hcp1 W.drew hWh;have c2:=hcp2 W.drew hWh;have RA:Hid (Own ((W.drew.setRow g R1).setRow g R2) B 3 1 (some ⟨g,0,none⟩) T c (cs.take i++us++cs.drop j)):=HF.out W.drew hWh;have HG:Hid (w.grownBy ((W.drew.setRow g R1).setRow g R2) (some g)):=gM (iQ _ kW.drew) _;clear hov hcp1 hcp2 hWh kW HF;go_wp2_with (simp only[ho]);go_region_law_o (refine step_copy_runI rfl _ _ 94 94 rfl (.slice (some ⟨g,i+m,none⟩) (T-(i+m)) (c-(i+m))) (.slice (some ⟨g,j,none⟩) (n-j) (c-j)) (by simp[Act.eval,Act.put]) (by simp[Act.eval,Act.put]) (c1 3 (c-(i+m)) (c-j)) ?_);go_wp2_with (at_builtin;refine wpList_copy_runI _ rfl _ _ 94 94 rfl _ _ rfl rfl (c2 _ _) ?_);go_ret;exact⟨_,_,rfl,by simpa using RA.out,HG.out⟩
theorem OE(h:Own w B 9 1 (some ⟨g,0,none⟩) n c cs)(hB:B<=w.heap.size)(i:Nat)(hi:i<n)(hn:n<=100000)(vb m vc:Nat)(us:List Value)(jN:us.length=m)(hm2:m<=2)(hin:n<=i+m)(hv:∀ t u,us[t]? = some u->w.cell? ⟨vb,t,none⟩=some u)(h1:∀ u∈us,u.oneCell'=true):
 Calls Tryz.prog 150 #[.slice (some ⟨g,0,none⟩) n c,.int .i64 i,.int .i64 n,.slice (some ⟨vb,0,none⟩) m vc] w fun e w'=>∃ p' c',e=.returned (.slice p' (i+m) c')/\Own w' B 9 1 p' (i+m) c' (cs.take i++us)/\w.grownBy w' (some g):=by
 obtain⟨i0,hi0,hz0,hz1,hz2⟩:=info_parts lX;have OI:=h.take i (by omega);have hc:=h.rw.le;have hcm:=h.rw.small;have hij:¬ ((i:Int)=(n:Int)):=by omega
 have hlt:¬ ((i:Int)+(m:Int)<(n:Int)):=by omega
 have hvs:∀ j u,us[j]? = some u->w.cell? ((⟨vb,0,none⟩:Addr).add j)=some u:=fun j u hu=>by rw[Addr.add_lit,aaj];exact hv j u hu
 have hic:i<=c:=by omega
 have hin2:i<=n:=by omega
 clear hv h;go_enter Tryz.func150,Tryz.ntmps150;go_wp2_with (at_builtin;refine wpList_append_own _ rfl _ _ 49 rfl B 9 i0 _ 1 16 Tryz.underlying49 hi0 hz0 hz1 hz2 rfl (by decide) (.slice (some ⟨g,0,none⟩) i c) i (cs.take (i*1)) rfl OI.out ⟨vb,0,none⟩ m vc us rfl (by omega) hvs h1 (by unfold maxLen;omega) (by omega) hB ?_;intro v' w4 o4 g4 _;obtain⟨p',c',rfl⟩:=Am o4;have O4:Hid (Own w4 B 9 1 p' (i+m) c' (cs.take (i*1)++us)):=⟨o4⟩;have G4:Hid (w.grownBy w4 (some g)):=g4;clear o4 g4);go_ret;refine⟨_,_,rfl,?_,G4.out⟩;have:=O4.out;rwa [aay]at this
theorem OG{W1:World}{R1:Array Value}(h:Own w B 9 1 (some ⟨g,0,none⟩) n c cs)(hn1:n=i+m+1)(hap:∀ ty,(Builtin.append_ #[49,49] ty #[.slice (some ⟨g,0,none⟩) i c,.slice q m vc]).run Tryz.prog w=.ok (.slice (some ⟨g,0,none⟩) (i+m) c) W1)(hg1:W1.heap[g]? = some (.cells R1 9 (0,0)))(OB:R1.toList.take (i+m)=cs.take i++us)(jN:us.length=m)(hs1:R1.size=c)(gr:w.grownBy W1 (some g)):
 Calls Tryz.prog 150 #[.slice (some ⟨g,0,none⟩) n c,.int .i64 i,.int .i64 n,.slice q m vc] w fun e w'=>∃ p' c',e=.returned (.slice p' (i+m) c')/\Own w' B 9 1 p' (i+m) c' (cs.take i++us)/\w.grownBy w' (some g):=by
 have hlen:=h.rw.len;rcases h.cases with⟨hx,_⟩|⟨g',cur,hx,hBg,hg2,hg,hnc,hcm,hcs,ht⟩
 ·cases hx
 injection hx with hx
 injection hx with hx
 subst hx;have hc63:c<=9223372036854775807:=by unfold maxLen at hcm;omega
 have hij:¬ ((i:Int)=(n:Int)):=by omega
 have hlt:(i:Int)+(m:Int)<(n:Int):=by omega
 have hic:i<=c:=by omega
 have hin2:i<=n:=by omega
 have him:i+m<=n:=by omega
 have ZX:¬ c=i+m:=by omega
 have hcl:∀ ty cc,(Builtin.clear_ #[49] ty #[.slice (some ⟨g,i+m,none⟩) (n-(i+m)) cc]).run Tryz.prog W1=.ok (.tuple #[]) (W1.setRow g (R1.toList.take (i+m)++[Value.string ⟨#[]⟩]++R1.toList.drop (i+m+([Value.string ⟨#[]⟩]).length)).toArray):=by
  intro ty cc;rw[show n-(i+m)=1 by omega];exact jo W1 49 9 ty (.string ⟨#[]⟩) Tryz.underlying49 Tryz.zeroValue9 g (i+m) 1 cc (by decide) R1 9 hg1 [Value.string ⟨#[]⟩] (by kernel_rfl) (by simp;omega) (by intro v hv;simp at hv;subst hv;rfl)
 have HF:Hid (Own (W1.setRow g (R1.toList.take (i+m)++[Value.string ⟨#[]⟩]++R1.toList.drop (i+m+([Value.string ⟨#[]⟩]).length)).toArray) B 9 1 (some ⟨g,0,none⟩) (i+m) c (cs.take i++us)):=by
  refine⟨by rw[aah,aam,hlen,jN];omega,.inr ⟨g,c,_,rfl,hBg,setRow_heap W1 g _ _ _ _ hg1,by omega,hcm,?_,?_⟩⟩
  ·simp[hs1];omega
  ·rw[aay,List.toList_toArray,aap,aaB (by simp[hs1];omega),OB]
 have HG:Hid (w.grownBy (W1.setRow g (R1.toList.take (i+m)++[Value.string ⟨#[]⟩]++R1.toList.drop (i+m+([Value.string ⟨#[]⟩]).length)).toArray) (some g)):=gM gr _;generalize (R1.toList.take (i+m)++[Value.string ⟨#[]⟩]++R1.toList.drop (i+m+([Value.string ⟨#[]⟩]).length)).toArray=R2 at hcl HF HG;clear hg1 OB jN hs1 gr h hg ht hcs hn1 hlen;go_enter Tryz.func150,Tryz.ntmps150;go_wp2_with (at_builtin;refine Lib.wpList_append_run _ rfl _ _ _ _ rfl _ _ rfl rfl _ _ (hap _) ?_);go_ret;exact⟨_,_,rfl,HF.out,HG.out⟩
theorem Gg{R1:Array Value}(hg1:V.heap[g]? = some (.cells R1 9 (0,0)))(hs1:R1.size=c)(hcl:cs.length=n)(ht:tot=i+m+(n-j))(htc:tot<=c)(hsrc:∀ k,j<=k->k<n->R1[k]? = cs[k]?)(h1:∀ u∈cs,u.oneCell'=true)(ty:TypeId)(dc sc:Nat) :
    (Builtin.copy_ #[49,49] ty #[.slice (some ⟨g,i+m,none⟩) (tot-(i+m)) dc,.slice (some ⟨g,j,none⟩) (n-j) sc]).run Tryz.prog V=.ok (.int .i64 ((n-j:Nat):Int)) (V.setRow g (R1.toList.take (i+m)++cs.drop j++R1.toList.drop (i+m+(n-j))).toArray):=by
  obtain⟨i0,hi0,hz0,hzs,hzb⟩:=info_parts lX;have hsz:(Tryz.prog.info? 9).map (·.size)=some 1:=by rw[hi0];simp[hzs]
  have hmin:Nat.min (n-j) (tot-(i+m))=n-j:=by show min (n-j) (tot-(i+m))=n-j;omega
  have hd:(cs.drop j).length=n-j:=by rw[aaw,hcl]
  rw[bz V 49 49 ty 9 1 g (i+m) (tot-(i+m)) dc ⟨g,j,none⟩ (n-j) sc R1 9 (cs.drop j) Tryz.underlying49 hsz hg1 (by rw[hmin,hd];omega) (fun k v hk=>by
    rw[Addr.add_lit,cell_of_row V g _ _ _ _ hg1]
    rw[aaZ]at hk
    have hkn:=(aal.1 hk).1
    rw[hsrc (j+k) (by omega) (by omega)]
    exact hk) (by rw[hd];omega) (fun v hv=>h1 v (aaA hv)),hmin,hd]
  rfl
theorem DY{R1:Array Value}(h:Own w B 9 1 (some ⟨g,0,none⟩) n c cs)(hij:i<j)(hj:j<n)(hm:i+m<=j)(hz:j<=i+m+1)(hn:n<=100000)(jN:us.length=m)(h1:∀ u∈cs,u.oneCell'=true)(hF:∀ W:World,Kept w W->W.heap=w.heap->(∀ ty dl dc,m<=dl->(Builtin.copy_ #[49,49] ty #[.slice (some ⟨g,i,none⟩) dl dc,.slice q m vc]).run Tryz.prog W=.ok (.int .i64 m) (F W))/\(F W).heap[g]? = some (.cells R1 9 (0,0))/\w.grownBy (F W) (some g))(FB:R1.toList.take (i+m)=cs.take i++us)(hRs:R1.size=c)(hRk:∀ k,j<=k->k<n->R1[k]? = cs[k]?):
 Calls Tryz.prog 150 #[.slice (some ⟨g,0,none⟩) n c,.int .i64 i,.int .i64 j,.slice q m vc] w fun e w'=>∃ p' c',e=.returned (.slice p' (i+m+(n-j)) c')/\Own w' B 9 1 p' (i+m+(n-j)) c' (cs.take i++us++cs.drop j)/\w.grownBy w' (some g):=by
 have hlen:=h.rw.len;rw[aay]at hlen;rcases h.cases with⟨hx,_⟩|⟨g',cur,hx,hBg,hg2,hg,hnc,hcm,hcs,ht⟩
 ·cases hx
 injection hx with hx
 injection hx with hx
 subst hx;have hc63:c<=9223372036854775807:=by unfold maxLen at hcm;omega
 obtain⟨T,hT⟩:∃ T,T=i+m+(n-j):=⟨_,rfl⟩;have a1:¬ ((i:Int)=(j:Int)):=by omega
 have a2:¬ ((j:Int)=(n:Int)):=by omega
 have a3:IntKind.i64.wrap ((i:Int)+(m:Int))=(i:Int)+(m:Int):=by rw[IntKind.wrap_i64];omega
 have a4:IntKind.i64.wrap ((i:Int)+(m:Int)+((n-j:Nat):Int))=(T:Int):=by rw[IntKind.wrap_i64];omega
 have a5:¬ ((c:Int)<(T:Int)):=by omega
 have a6:(i:Int)+(m:Int)<=(j:Int):=by omega
 have a7:i<=c:=by omega
 have a8:j<=c:=by omega
 have a9:¬ c=j:=by omega
 have sK:¬ c=i:=by omega
 have a11:¬ c=i+m:=by omega
 have a12:i<=j:=by omega
 have ZY:j<=n:=by omega
 have ZZ:((i:Int)+(m:Int)).toNat=i+m:=by omega
 have a15:(0:Int)<=(i:Int)+(m:Int):=by omega
 have mixed:Tryz.prog.follows .mixedOrders=true:=by kernel_rfl
 have a16:(i:Int)<=(T:Int):=by omega
 have a17:(i:Int)+(m:Int)<=(T:Int):=by omega
 have Wz:T<=c:=by omega
 have a19:(T:Int)<=(n:Int):=by omega
 have hdl:m<=T-i:=by omega
 have uO:∀ V:World,V.heap[g]? = some (.cells R1 9 (0,0))->∀ ty dc sc,_:=fun V hV ty dc sc=>Gg (V:=V) (i:=i) (j:=j) (m:=m) (tot:=T) (n:=n) hV hRs hlen hT Wz hRk h1 ty dc sc
 obtain⟨R2,hR2⟩:∃ R2:Array Value,R2=(R1.toList.take (i+m)++cs.drop j++R1.toList.drop (i+m+(n-j))).toArray:=⟨_,rfl⟩;rw[<- hR2]at uO;have yj:R2.size=c:=by rw[hR2];simp[hlen];omega
 have DX:R2.toList.take T=cs.take i++us++cs.drop j:=by
  rw[hR2,List.toList_toArray,aaB (by simp[hlen,hRs];omega),FB]
 have HO:Hid (∀ (V:World) (R:Array Value),V.heap[g]? = some (.cells R 9 (0,0))->R.size=c->R.toList.take T=R2.toList.take T->Own V B 9 1 (some ⟨g,0,none⟩) T c (cs.take i++us++cs.drop j)):=fun V R hV aab Vy=>
  ⟨by simp[hlen,jN];omega,.inr ⟨g,c,R,rfl,hBg,hV,by omega,hcm,by omega,by rw[aay,Vy,DX]⟩⟩
 have HT:Hid (T=i+m+(n-j)):=hT;have hcl0:T=n->∀ (V:World) ty A cc,(Builtin.clear_ #[49] ty #[.slice A 0 cc]).run Tryz.prog V=.ok (.tuple #[]) V:=fun _ V ty A cc=>by cases A <;> simp[Builtin.clear_,run_underlying Tryz.underlying49]
 have Gf:T+1=n->∀ (V:World),V.heap[g]? = some (.cells R2 9 (0,0))->∀ ty cc,(Builtin.clear_ #[49] ty #[.slice (some ⟨g,T,none⟩) 1 cc]).run Tryz.prog V=.ok (.tuple #[]) (V.setRow g (R2.toList.take T++[Value.string ⟨#[]⟩]++R2.toList.drop (T+([Value.string ⟨#[]⟩]).length)).toArray):=fun _ V hV ty cc=>
  jo V 49 9 ty (.string ⟨#[]⟩) Tryz.underlying49 Tryz.zeroValue9 g T 1 cc (by decide) R2 9 hV [Value.string ⟨#[]⟩] (by kernel_rfl) (by simp;omega) (by intro v hv;simp at hv;subst hv;rfl)
 have hTn:T=n\/T+1=n:=by omega
 have HS2:Hid (R2.size=c):=yj;rw[<- hT];clear h FB hRs hRk jN hlen hT hz hm ht hcs hg hR2 yj DX;go_enter Tryz.func150,Tryz.ntmps150;go_wp2;go_quiet (fail);obtain⟨W,hW⟩:∃ W,w.drewN nq=W:=⟨_,rfl⟩;obtain⟨f1,f2,f3⟩:=hF W (by rw[<- hW];exact (Kept.refl w).drewN nq) (by rw[<- hW,World.heap_drewN]);rw[hW];clear hW hF;have f1':=fun ty dc=>f1 ty (T-i) dc hdl
 have ht2:=uO (F W) f2;have ht3:=uO (F W).drew f2;have b2:((F W).drew.setRow g R2).heap[g]? = some (.cells R2 9 (0,0)):=setRow_heap (F W).drew _ _ _ _ _ f2;have g2:w.grownBy ((F W).drew.setRow g R2) (some g):=gM (W:=(F W).drew) ⟨f3.os,f3.tape,f3.output,f3.size,f3.block⟩ _;generalize F W=V at *;clear f1 uO;go_wp2_with (at_builtin;refine wpList_copy_runI _ rfl _ _ 49 49 rfl _ _ rfl rfl (f1' _ _) ?_);go_region_law_o (refine step_copy_runI rfl _ _ 49 49 rfl (.slice (some ⟨g,i+m,none⟩) (T-(i+m)) (c-(i+m))) (.slice (some ⟨g,j,none⟩) (n-j) (c-j)) (by simp[Act.eval,Act.put]) (by simp[Act.eval,Act.put]) (ht3 3 (c-(i+m)) (c-j)) ?_);rcases hTn with e | e
 ·subst e
  have hc0:=hcl0 rfl;have HB:Hid (((V.drew).setRow g R2).heap[g]? = some (.cells R2 9 (0,0))):=b2;have HG:Hid (w.grownBy (V.drew.setRow g R2) (some g)):=g2;clear Gf hcl0 b2 g2;by_cases hcT:c=T
  ·subst hcT
   go_wp2;go_ret;exact⟨_,_,rfl,by simpa using HO.out _ _ HB.out HS2.out rfl,HG.out⟩
  ·go_wp2
   go_ret;exact⟨_,_,rfl,by simpa using HO.out _ _ HB.out HS2.out rfl,HG.out⟩
 ·have hc1:=Gf e _ b2
  have e0:n-T=1:=by omega
  have e2:¬ c=T:=by omega
  have HB:Hid (((V.drew.setRow g R2).setRow g (R2.toList.take T++[Value.string ⟨#[]⟩]++R2.toList.drop (T+([Value.string ⟨#[]⟩]).length)).toArray).heap[g]? = some (.cells (R2.toList.take T++[Value.string ⟨#[]⟩]++R2.toList.drop (T+([Value.string ⟨#[]⟩]).length)).toArray 9 (0,0))):=setRow_heap _ _ _ _ _ _ b2;have HG:Hid (w.grownBy ((V.drew.setRow g R2).setRow g (R2.toList.take T++[Value.string ⟨#[]⟩]++R2.toList.drop (T+([Value.string ⟨#[]⟩]).length)).toArray) (some g)):=gM g2 _;have HR:Hid ((R2.toList.take T++[Value.string ⟨#[]⟩]++R2.toList.drop (T+([Value.string ⟨#[]⟩]).length)).toArray.size=c/\(R2.toList.take T++[Value.string ⟨#[]⟩]++R2.toList.drop (T+([Value.string ⟨#[]⟩]).length)).toArray.toList.take T=R2.toList.take T):=⟨by have:=HS2.out;simp[this];omega,by rw[List.toList_toArray,aap,aaB (by have:=HS2.out;simp[this];omega)]⟩;generalize (R2.toList.take T++[Value.string ⟨#[]⟩]++R2.toList.drop (T+([Value.string ⟨#[]⟩]).length)).toArray=R3 at hc1 HB HG HR;clear Gf hcl0 b2 g2 e;go_wp2;go_ret;exact⟨_,_,rfl,by simpa using HO.out _ _ HB.out HR.out.1 HR.out.2,HG.out⟩
theorem Own.at(h:Own w B e 1 (some ⟨g,0,none⟩) n c cs):∃ cur:Array Value,w.heap[g]? = some (.cells cur e (0,0))/\cur.size=c/\cur.toList.take n=cs/\n<=c/\cs.length=n:=by
 have hl:=h.rw.len;rcases h.cases with⟨hx,_⟩|⟨g',cur,hx,hBg,hg1,hg,hnc,hcm,hcs,ht⟩
 ·cases hx
 injection hx with hx
 injection hx with hx
 subst hx;exact⟨cur,hg,by omega,by rwa [aay]at ht,hnc,by omega⟩
variable {cur:Array Value}
theorem uP(hg:w.heap[g]? = some (.cells cur e (0,0)))(ht:cur.toList.take n=cs):∀ j u,cs[j]? = some u->w.cell? ⟨g,j,none⟩=some u:=by
 intro j v hj;rw[cell_of_row w g j _ _ _ hg];rw[<- ht,aaT]at hj;split at hj
 ·simpa using hj
 ·cases hj
theorem yO(ht:cur.toList.take n=cs)(hi:i<=n)(jN:us.length=m)(him:i+m<=cur.size) :
  ((cur.toList.take i++us++cur.toList.drop (i+us.length)).toArray).toList.take (i+m)=cs.take i++us/\(cur.toList.take i++us++cur.toList.drop (i+us.length)).toArray.size=cur.size/\∀ k,i+m<=k->k<n->(cur.toList.take i++us++cur.toList.drop (i+us.length)).toArray[k]? = cs[k]?:=by
 have e1:cur.toList.take i=cs.take i:=by rw[<- ht,List.take_take];congr 1;omega
 have el:(cs.take i).length=i:=by rw[<- e1];simp;omega
 refine⟨?_,by simp;omega,fun k h1 h2=>?_⟩
 ·rw[List.toList_toArray,e1,aaB (by simp only[aah,el,jN])]
 ·rw[e1,List.getElem?_toArray,aa0 (by rw[aah,el,jN];omega)]
  have hk2:i+us.length+(k-(List.take i cs++us).length)=k:=by rw[aah,el,jN];omega
  rw[aaZ,hk2,<- ht,aaT,aao h2]
variable {B':Nat}
theorem DZ(h:Own w B 3 1 (some ⟨g,0,none⟩) n c cs)(hB:B<=w.heap.size)(hij:i<j)(hjn:j<=n)(hj2:j<=i+2)(hn:n<=99999)(hV:Own w B' 3 1 q m vc us)(hm:1<=m)(hm2:m<=2)(hne:∀ b,q=some ⟨b,0,none⟩->b≠g)(h1:∀ u∈cs,u.oneCell'=true)(h1v:∀ u∈us,u.oneCell'=true):
 Calls Tryz.prog 149 #[.slice (some ⟨g,0,none⟩) n c,.int .i64 i,.int .i64 j,.slice q m vc] w fun e w'=>∃ p' c',e=.returned (.slice p' (i+m+(n-j)) c')/\Own w' B 3 1 p' (i+m+(n-j)) c' (cs.take i++us++cs.drop j)/\w.grownBy w' (some g):=by
  obtain⟨vb,rfl⟩:∃ vb,q=some ⟨vb,0,none⟩:=by
    rcases hV.cases with⟨rfl,h0,_⟩|⟨vb,_,rfl,_⟩
    · omega
    · exact⟨vb,rfl⟩
  obtain⟨rE,Vz,hvs,OD,hvl,jN⟩:=hV.at;obtain⟨cur,hg,hcs,ht,hnc,hlen⟩:=h.at;have Cm:=uP Vz OD;have hne':=hne vb rfl;by_cases OH:j=n
  · subst OH
    rw[Nat.sub_self,Nat.add_zero,aaO (by omega),aaM];by_cases hin:j<=i+m
    · exact SX h hB i hij (by omega) vb m vc us jN hm2 hin Cm h1v
    · obtain⟨r1,r2,r3⟩:=yO (us:=us) (m:=m) ht (show i<=j by omega) jN (by omega)
      obtain⟨i0,hi0,hz0,hzs,hzb⟩:=info_parts info3;have hap:∀ ty,(Builtin.append_ #[94,94] ty #[.slice (some ⟨g,0,none⟩) i c,.slice (some ⟨vb,0,none⟩) m vc]).run Tryz.prog w=.ok (.slice (some ⟨g,0,none⟩) (i+m) c) (w.setRow g (cur.toList.take i++us++cur.toList.drop (i+us.length)).toArray):=fun ty=>by
        have:=run_append_room (P:=Tryz.prog) (w:=w) 94 ty 3 i0 Tryz.underlying94 hi0 g i c cur hg ⟨vb,0,none⟩ m vc us (by rw[hzs];omega) (fun k u hk=>by rw[Addr.add_lit,aaj];exact Cm k u hk) h1v (by omega) (by rw[hzs];omega);rw[hzs,aay]at this;exact this
      exact SY h (show j=i+m+1 by omega) hap (setRow_heap _ _ _ _ _ _ hg) r1 jN (by rw[r2];exact hcs) (iQ _ (Kept.refl w))
  · by_cases hT:c<i+m+(n-j)
    · exact OC h hB hij (by omega) hT hn jN hm2 Cm h1 h1v
    · by_cases him:i+m<=j
      · obtain⟨r1,r2,r3⟩:=yO (us:=us) (m:=m) ht (show i<=n by omega) jN (by omega)
        obtain⟨i0,hi0,hz0,hzs,hzb⟩:=info_parts info3;have hsz:(Tryz.prog.info? 3).map (·.size)=some 1:=by rw[hi0];simp[hzs]
        refine S9 (F:=fun W=>W.setRow g (cur.toList.take i++us++cur.toList.drop (i+us.length)).toArray) h hij (by omega) him (by omega) (by omega) jN h1 (fun W kW hW=>⟨fun ty dl dc hdl=>?_,setRow_heap _ _ _ _ _ _ (by rw[hW];exact hg),iQ _ kW⟩) r1 (by rw[r2];exact hcs) (fun k h1 h2=>r3 k (by omega) h2);have hmin:Nat.min m dl=m:=by show min m dl=m;omega
        have hq2:W.heap[vb]? = some (.cells rE 3 (0,0)):=by rw[hW];exact Vz
        rw[bz W 94 94 ty 3 1 g i dl dc ⟨vb,0,none⟩ m vc cur 3 us Tryz.underlying94 hsz (by rw[hW];exact hg) (by rw[hmin,jN];omega) (fun k v hk=>by rw[Addr.add_lit,aaj];exact uP hq2 OD k v hk) (by omega) h1v,hmin];rfl
      · exact KT h hij (by omega) (by omega) (by omega) hn jN hm2 Vz OD hne' h1 h1v
theorem Gh{p:Option Addr}(h:Own w B 9 1 p n c cs)(hB:B<=w.heap.size)(i:Nat)(hi:i<=n)(hn:n<=100000)(h1:∀ u∈cs,u.oneCell'=true)(vb vc:Nat)(u:Value)(rE:Array Value)(hv:w.heap[vb]? = some (.cells rE 9 (0,0)))(hvu:rE[0]? = some u)(hne:∀ g,p=some ⟨g,0,none⟩->g≠vb)(hu:u.oneCell'=true):
 Calls Tryz.prog 129 #[.slice p n c,.int .i64 i,.slice (some ⟨vb,0,none⟩) 1 vc] w fun e w'=>∃ p' c',e=.returned (.slice p' (n+1) c')/\Own w' B 9 1 p' (n+1) c' (cs.take i++u :: cs.drop i)/\w.grownBy w' (blk p):=by
 have hvs:∀ (j:Nat) (v:Value),[u][j]? = some v->w.cell? ⟨vb,0+j,none⟩=some v:=by
  intro j v hj;match j,hj with
  | 0,hj=>rw[cell_of_row w vb 0 _ _ _ hv,hvu];simpa using hj
 have h1v:∀ v∈[u],v.oneCell'=true:=by intro v hv;simp at hv;subst hv;exact hu
 have hlen:=h.rw.len;rw[aay]at hlen;have hkn:∀ (o:Obj),Kept w (w.drew.alloc o):=fun o=>(Kept.refl w).drew.alloc o
 have Dp:∀ (q:Option Addr) (c:Nat),n<=c->c<n+1->(q=none->n=0)->(∀ a,q=some a->∀ j v,cs[j]? = some v->w.cell? (a.add j)=some v)->i=n ->
   Calls Tryz.prog 129 #[.slice q n c,.int .i64 i,.slice (some ⟨vb,0,none⟩) 1 vc] w fun e w'=>∃ p' c',e=.returned (.slice p' (n+1) c')/\Own w' B 9 1 p' (n+1) c' (cs.take i++u :: cs.drop i)/\w.grownBy w' (blk p):=by
  intro q c hc1 hc2 hq1 hq2 hin;subst hin;refine (Any2.slices_Insert_string_end_grow Tryz.lays22 q i c vb 0 1 vc cs [u] w (by decide) hc1 hc2 (by omega) hlen rfl hq1 hq2 hvs h1v).mono ?_;rintro e w' ⟨rfl,rfl⟩;have hG:=grownCap_ge w (i+1) c 9;have hG2:=grownCap_le_maxLen w (i+1) c 9 (by unfold maxLen;omega);refine⟨_,_,rfl,⟨by simp[hlen],.inr ⟨_,_,_,rfl,hB,heap_alloc_new _ _,hG,hG2,?_,?_⟩⟩,(hkn _).grown _⟩
  ·simp[Builtin.zeroCells,Value.cells,hlen]
   show i+1+(grownCap w (i+1) c 9-(i+1))=grownCap w (i+1) c 9;omega
  ·rw[Array.toList_append,aaB (by simp[hlen]),aaz (by omega),aaO (by omega)]
 rcases h.cases with⟨rfl,rfl,rfl,rfl⟩|⟨g,cur,rfl,hBg,hg1,hg,hnc,hcm,hcs,ht⟩
 ·obtain rfl:i=0:=by omega
  exact Dp none 0 (aac _) (by omega) (fun _=>rfl) (fun a ha=>by cases ha) rfl
 ·rw[aay]at hcs ht
  have hcell:∀ (j:Nat) (v:Value),cs[j]? = some v->w.cell? ⟨g,0+j,none⟩=some v:=by
   intro j v hj;rw[aaj,cell_of_row w g j _ _ _ hg];rw[<- ht,aaT]at hj;split at hj
   ·simpa using hj
   ·cases hj
  have hgv:=hne g rfl;have hsp:∀ j,j<c->(w.cell? ⟨g,j,none⟩).isSome=true:=fun j hj=>by rw[cell_of_row w g j _ _ _ hg];simp;omega
  have hfz:∀ j,w.frozen? ⟨g,j,none⟩=false:=fun j=>frozen_of_row w g j _ _ hg
  by_cases hroom:n+1<=c
  ·by_cases hin:i<n
   ·refine (Any2.slices_Insert_string_shift Tryz.lays22 g 0 n c i vb 0 1 vc cs [u] w hin (by decide) hroom (by unfold maxLen at hcm;omega) (Ne.symm hgv) hlen rfl hcell (fun j hj=>by rw[aaj];exact hsp j (by omega)) (fun j _=>by rw[aaj];exact hfz j) hvs h1 h1v 9 9 rE.size c ?_ ?_ (by omega) (frozen_of_row w vb 0 _ _ hv) (frozen_of_row w vb _ _ _ hv)).mono ?_
    ·simp[World.shape?,hv]
    ·simp[World.shape?,hg,hcs]
    rintro e w' ⟨rfl,rfl⟩;rw[aaj,aaj,bI g 9 (cs.drop i) (i+1) cur w.drew hg (by simp;omega),bI g 9 [u] i _ _ (setRow_heap w.drew g _ _ _ _ hg) (by simp;omega),setRow_setRow];refine⟨_,_,rfl,⟨by simp[hlen];omega,.inr ⟨g,c,_,rfl,hBg,setRow_heap w.drew g _ _ _ _ hg,hroom,hcm,?_,?_⟩⟩,iQ _ (Kept.refl w).drew⟩
    ·simp;omega
    ·have:=moved cur.toList cs [u] i n 1 rfl hi ht (by simp;omega)
     simpa using this
   ·obtain rfl:i=n:=by omega
    refine (Any2.slices_Insert_string_end_room Tryz.lays22 g 0 i c vb 0 1 vc [u] w (by decide) hroom (by unfold maxLen at hcm;omega) rfl (fun j hj=>by rw[aaj];exact hsp _ (by omega)) (fun j _=>by rw[aaj];exact hfz _) hvs h1v).mono ?_;rintro e w' ⟨rfl,rfl⟩;rw[aaj,bI g 9 [u] i cur w hg (by simp;omega)];refine⟨_,_,rfl,⟨by simp[hlen],.inr ⟨g,c,_,rfl,hBg,setRow_heap w g _ _ _ _ hg,hroom,hcm,?_,?_⟩⟩,iQ _ (Kept.refl w)⟩
    ·simp;omega
    ·have e1:cs.take i=cs:=aaz (by omega)
     have e2:cs.drop i=[]:=aaO (by omega);have e3:(cur.toList.take i++[u]++cur.toList.drop (i + [u].length)).take (i+1)=cs++[u]:=by rw[ht,aaB (by simp[hlen])]
     rw[e1,e2,aay];simpa using e3
  ·by_cases hin:i<n
   ·refine (Any2.slices_Insert_string_grow Tryz.lays22 g 0 n c i vb 0 1 vc cs [u] w hin (by decide) hnc (by omega) (by omega) hlen rfl hcell hvs h1 h1v).mono ?_
    rintro e w' ⟨rfl,rfl⟩;have hG:=grownCap_ge w (n+1) c 9;have hG2:=grownCap_le_maxLen w (n+1) c 9 (by unfold maxLen;omega);generalize Zx:grownCap w (n+1) c (Tryz.lays22_ren.t 9)=G;have Ve:grownCap w (n+1) c 9=G:=Zx;rw[Ve]at hG hG2;obtain⟨ROW,hROW⟩:∃ ROW:Array Value,ROW=(cs.take i).toArray++Builtin.zeroCells (Value.string ⟨#[]⟩).cells (n+1-i)++Builtin.zeroCells (Value.string ⟨#[]⟩).cells (G-(n+1)):=⟨_,rfl⟩;rw[<- hROW];have hRs:ROW.size=G:=by rw[hROW];simp[Builtin.zeroCells,Value.cells,hlen];omega
    have FB:ROW.toList.take i=cs.take i:=by
     rw[hROW,Array.toList_append,Array.toList_append,aap,aaB (by simp[hlen];omega)]
    have hb0:(w.alloc (.cells ROW 9)).drew.heap[w.heap.size]? = some (.cells ROW 9 (0,0)):=heap_alloc_new w _;show ∃ p' c',_/\Own ((((w.alloc (.cells ROW 9)).drew.setCells w.heap.size i [u]).drew).setCells w.heap.size (i+1) (cs.drop i)) B 9 1 p' (n+1) c' (cs.take i++u :: cs.drop i)/\w.grownBy ((((w.alloc (.cells ROW 9)).drew.setCells w.heap.size i [u]).drew).setCells w.heap.size (i+1) (cs.drop i)) (blk _);rw[bI w.heap.size 9 [u] i ROW _ hb0 (by simp;omega)];have hb1:(((w.alloc (.cells ROW 9)).drew.setRow w.heap.size (ROW.toList.take i++[u]++ROW.toList.drop (i + [u].length)).toArray).drew).heap[w.heap.size]? = some (.cells (ROW.toList.take i++[u]++ROW.toList.drop (i + [u].length)).toArray 9 (0,0)):=setRow_heap (w.alloc (.cells ROW 9)).drew w.heap.size _ (ROW.toList.take i++[u]++ROW.toList.drop (i + [u].length)).toArray _ _ hb0;rw[bI w.heap.size 9 (cs.drop i) (i+1) _ _ hb1 (by simp;omega)];refine⟨_,_,rfl,⟨by simp[hlen];omega,.inr ⟨w.heap.size,G,_,rfl,hB,setRow_heap _ _ _ _ _ _ hb1,hG,hG2,?_,?_⟩⟩,?_⟩
    ·simp;omega
    ·simp only[FB]
     have ec:(cs.take i).length=i:=by simp[hlen];omega
     have e5:(cs.take i++[u]++ROW.toList.drop (i + [u].length)).take (i+1)=cs.take i++[u]:=aaB (by simp[ec]);rw[e5,aay,aaB (by simp[hlen];omega)];simp
    ·have hk:=((((Kept.refl w).alloc (.cells ROW 9)).drew.setRow (aac _) (ROW.toList.take i++[u]++ROW.toList.drop (i + [u].length)).toArray).drew)
     exact (hk.setRow (aac _) _).grown _
   ·obtain rfl:i=n:=by omega
    exact Dp _ c hnc (by omega) (fun e=>by cases e) (fun a ha j v hj=>by injection ha with ha;subst ha;rw[Addr.add_lit];exact hcell j v hj) rfl
theorem D7(w:World)(g n c i:Nat)(hi:i<=n)(hc:n<=c):Calls Tryz.prog 129 #[.slice (some ⟨g,0,none⟩) n c,.int .i64 i,.slice none 0 0] w fun e w'=>e=.returned (.slice (some ⟨g,0,none⟩) n c)/\w'=w:=by
 have h2:i<=c:=by omega
 go_enter Tryz.func129,Tryz.ntmps129;go_wp2;all_goals
  go_ret
  exact⟨rfl,rfl⟩
theorem IZ{Q:Value->World->Prop}(hi:i<=n)(hc:n<=c)(f:Calls Tryz.prog 129 #[.slice (some ⟨g,0,none⟩) n c,.int .i64 i,.slice q m vc] w fun e w'=>∃ v,e=.returned v/\Q v w'):
 Calls Tryz.prog 150 #[.slice (some ⟨g,0,none⟩) n c,.int .i64 i,.int .i64 i,.slice q m vc] w fun e w'=>∃ v,e=.returned v/\Q v w':=by
 have h2:i<=c:=by omega
 go_enter Tryz.func150,Tryz.ntmps150;go_wp2_with (go_at_call 129;(with_reducible refine f.mono ?_);rintro e w1 ⟨v,rfl,q1⟩);all_goals
  go_ret
  exact⟨_,rfl,q1⟩
theorem D8(h:Own w B 9 1 (some ⟨g,0,none⟩) n c cs)(hB:B<=w.heap.size)(hij:i<=j)(hjn:j<=n)(hj2:j<=i+1)(hn:n<=99999)(hV:Own w B' 9 1 q m vc us)(hm:m<=1)(hne:∀ b,q=some ⟨b,0,none⟩->b≠g)(hq:m=0->q=none/\vc=0)(h1:∀ u∈cs,u.oneCell'=true)(h1v:∀ u∈us,u.oneCell'=true):
 Calls Tryz.prog 150 #[.slice (some ⟨g,0,none⟩) n c,.int .i64 i,.int .i64 j,.slice q m vc] w fun e w'=>∃ p' c',e=.returned (.slice p' (i+m+(n-j)) c')/\Own w' B 9 1 p' (i+m+(n-j)) c' (cs.take i++us++cs.drop j)/\w.grownBy w' (some g):=by
  obtain⟨cur,hg,hcs,ht,hnc,hlen⟩:=h.at;have hvl:=hV.rw.len;rw[aay]at hvl;by_cases hm0:m=0
  · subst hm0
    obtain⟨rfl,rfl⟩:=hq rfl;obtain rfl:us=[]:=aaL.1 hvl;simp only[aaM,Nat.add_zero];by_cases hij':i=j
    · subst hij'
      have e1:i+(n-i)=n:=by omega
      refine (IZ (Q:=fun v w'=>v=.slice (some ⟨g,0,none⟩) n c/\w'=w) hjn hnc ((D7 w g n c i hjn hnc).mono (by rintro e w' ⟨rfl,rfl⟩;exact⟨_,rfl,rfl,rfl⟩))).mono ?_;rintro e w' ⟨v,rfl,rfl,rfl⟩;rw[e1,aax];exact⟨_,_,rfl,h,(Kept.refl _).grown _⟩
    · by_cases OH:j=n
      · subst OH
        rw[Nat.sub_self,Nat.add_zero,aaO (by omega),aaM];obtain⟨i0,hi0,hz0,hzs,hzb⟩:=info_parts lX;have hap:∀ ty,(Builtin.append_ #[49,49] ty #[.slice (some ⟨g,0,none⟩) i c,.slice none 0 0]).run Tryz.prog w=.ok (.slice (some ⟨g,0,none⟩) (i+0) c) w:=fun ty=>by
          have hic:i<=c:=by omega
          simp[Builtin.append_,run_underlying Tryz.underlying49,sizeOf,typeInfo,hi0,Builtin.lenOf,Builtin.firstCells,hic,storeCells]
        have:=OG (us:=[]) (m:=0) (vc:=0) (q:=none) (i:=i) h (show j=i+0+1 by omega) hap hg (by rw[aaM,Nat.add_zero,<- ht,List.take_take];congr 1;omega) rfl hcs ((Kept.refl _).grown _);simpa using this
      · have:=DY (F:=fun W=>W) (us:=[]) (m:=0) (vc:=0) (q:=none) h (show i<j by omega) (by omega) (by omega) (by omega) (by omega) rfl h1 (fun W kW hW=>⟨fun ty dl dc hdl=>by
          obtain⟨i0,hi0,hz0,hzs,hzb⟩:=info_parts lX
          exact lW W 49 49 ty 9 none 1 (some ⟨g,i,none⟩) dl dc 0 0 Tryz.underlying49 (by rw[hi0];simp[hzs]) (by show min 0 dl=0;omega) rfl (by simp) rfl,by rw[hW];exact hg,kW.grown _⟩) (by rw[aaM,Nat.add_zero,<- ht,List.take_take];congr 1;omega) hcs (fun k h1 h2=>by rw[<- ht,aaT,aao h2];simp)
        simpa using this
  · obtain rfl:m=1:=by omega
    obtain⟨u,rfl⟩:∃ u,us=[u]:=by
      match us,hvl with
      | [u],_=>exact⟨u,rfl⟩
    obtain⟨vb,rfl⟩:∃ vb,q=some ⟨vb,0,none⟩:=by
      rcases hV.cases with⟨rfl,h0,_⟩|⟨vb,_,rfl,_⟩
      · omega
      · exact⟨vb,rfl⟩
    obtain⟨rE,Vz,hvs,OD,hvl,jN⟩:=hV.at;have Cm:=uP Vz OD;have hne':=hne vb rfl;have hv0:rE[0]? = some u:=by
      have:=congrArg (·[0]?) OD;simp only[aaT,List.getElem?_cons_zero]at this;simpa using this
    by_cases hij':i=j
    · subst hij'
      have e1:i+1+(n-i)=n+1:=by omega
      rw[e1];refine (IZ (Q:=fun v w'=>∃ p' c',v=.slice p' (n+1) c'/\Own w' B 9 1 p' (n+1) c' (cs.take i++u :: cs.drop i)/\w.grownBy w' (some g)) hjn hnc ((Gh h hB i hjn (by omega) h1 vb vc u rE Vz hv0 (fun g' e=>by injection e with e;injection e with e;subst e;exact Ne.symm hne') (h1v u (by simp))).mono (by rintro e w' ⟨p',c',rfl,a,b⟩;exact⟨_,rfl,_,_,rfl,a,b⟩))).mono ?_;rintro e w' ⟨v,rfl,p',c',rfl,a,b⟩;exact⟨p',c',rfl,by simpa using a,b⟩
    · by_cases OH:j=n
      · subst OH
        rw[Nat.sub_self,Nat.add_zero,aaO (by omega),aaM];exact OE h hB i (by omega) (by omega) vb 1 vc [u] rfl (by omega) (by omega) Cm h1v
      · obtain⟨r1,r2,r3⟩:=yO (us:=[u]) (m:=1) ht (show i<=n by omega) rfl (by omega)
        obtain⟨i0,hi0,hz0,hzs,hzb⟩:=info_parts lX;have hsz:(Tryz.prog.info? 9).map (·.size)=some 1:=by rw[hi0];simp[hzs]
        refine DY (F:=fun W=>W.setRow g (cur.toList.take i++[u]++cur.toList.drop (i + [u].length)).toArray) h (show i<j by omega) (by omega) (by omega) (by omega) (by omega) rfl h1 (fun W kW hW=>⟨fun ty dl dc hdl=>?_,setRow_heap _ _ _ _ _ _ (by rw[hW];exact hg),iQ _ kW⟩) r1 (by rw[r2];exact hcs) (fun k h1 h2=>r3 k (by omega) h2);have hmin:Nat.min 1 dl=1:=by show min 1 dl=1;omega
        have hq2:W.heap[vb]? = some (.cells rE 9 (0,0)):=by rw[hW];exact Vz
        rw[bz W 49 49 ty 9 1 g i dl dc ⟨vb,0,none⟩ 1 vc cur 9 [u] Tryz.underlying49 hsz (by rw[hW];exact hg) (by rw[hmin];rfl) (fun k v hk=>by rw[Addr.add_lit,aaj];exact uP hq2 OD k v hk) (by simp;omega) h1v,hmin];rfl
