/- Joined. -/
import Derived.Test.YtifeihnhkbagpaaGreatDoorZav
import Derived.Shelf.Spec.SlicesGrow
import Derived.Laws.AppendOwnNone
set_option maxRecDepth 100000
set_option maxHeartbeats 2000000
namespace Go.Proofs
open Shelf
def Tryz.grow71_ren:Go.Shelf.Ren:=⟨fun | 4=>234 | n=>n,fun | 22=>49 | 25=>9 | n=>n,fun | n=>n⟩
theorem Tryz.grow71:Go.Proofs.Lays8.n4 Tryz.prog Tryz.grow71_ren:={
 mixed:=by kernel_rfl
 f4:=⟨Tryz.f234.name,by decide +kernel,Tryz.func234.trans (congrArg some (by kernel_rfl))⟩
 t0:=Tryz.underlying0
 a0:=Tryz.isAgg0
 z0:=Tryz.sizeOf0
 v0:=Tryz.zeroValue0
 t3:=Tryz.underlying3
 a3:=Tryz.isAgg3
 z3:=Tryz.sizeOf3
 v3:=Tryz.zeroValue3
 t4:=Tryz.underlying4
 a4:=Tryz.isAgg4
 z4:=Tryz.sizeOf4
 v4:=Tryz.zeroValue4
 t9:=Tryz.underlying9
 a9:=Tryz.isAgg9
 z9:=Tryz.sizeOf9
 v9:=Tryz.zeroValue9
 t20:=Tryz.underlying20
 a20:=Tryz.isAgg20
 z20:=Tryz.sizeOf20
 v20:=Tryz.zeroValue20
 t22:=Tryz.underlying49
 a22:=Tryz.isAgg49
 z22:=Tryz.sizeOf49
 v22:=Tryz.zeroValue49 }
def Tryz.grow72_ren:Go.Shelf.Ren:=⟨fun | 4=>235 | n=>n,fun | 22=>119 | 25=>77 | n=>n,fun | n=>n⟩
theorem Tryz.grow72:Go.Proofs.Lays8.n4 Tryz.prog Tryz.grow72_ren:={
 mixed:=by kernel_rfl
 f4:=⟨Tryz.f235.name,by decide +kernel,Tryz.func235.trans (congrArg some (by kernel_rfl))⟩
 t0:=Tryz.underlying0
 a0:=Tryz.isAgg0
 z0:=Tryz.sizeOf0
 v0:=Tryz.zeroValue0
 t3:=Tryz.underlying3
 a3:=Tryz.isAgg3
 z3:=Tryz.sizeOf3
 v3:=Tryz.zeroValue3
 t4:=Tryz.underlying4
 a4:=Tryz.isAgg4
 z4:=Tryz.sizeOf4
 v4:=Tryz.zeroValue4
 t9:=Tryz.underlying9
 a9:=Tryz.isAgg9
 z9:=Tryz.sizeOf9
 v9:=Tryz.zeroValue9
 t20:=Tryz.underlying20
 a20:=Tryz.isAgg20
 z20:=Tryz.sizeOf20
 v20:=Tryz.zeroValue20
 t22:=Tryz.underlying119
 a22:=Tryz.isAgg119
 z22:=Tryz.sizeOf119
 v22:=Tryz.zeroValue119 }
def Tryz.grow73_ren:Go.Shelf.Ren:=⟨fun | 4=>236 | n=>n,fun | 22=>94 | 25=>3 | n=>n,fun | n=>n⟩
theorem Tryz.grow73:Go.Proofs.Lays8.n4 Tryz.prog Tryz.grow73_ren:={
 mixed:=by kernel_rfl
 f4:=⟨Tryz.f236.name,by decide +kernel,Tryz.func236.trans (congrArg some (by kernel_rfl))⟩
 t0:=Tryz.underlying0
 a0:=Tryz.isAgg0
 z0:=Tryz.sizeOf0
 v0:=Tryz.zeroValue0
 t3:=Tryz.underlying3
 a3:=Tryz.isAgg3
 z3:=Tryz.sizeOf3
 v3:=Tryz.zeroValue3
 t4:=Tryz.underlying4
 a4:=Tryz.isAgg4
 z4:=Tryz.sizeOf4
 v4:=Tryz.zeroValue4
 t9:=Tryz.underlying9
 a9:=Tryz.isAgg9
 z9:=Tryz.sizeOf9
 v9:=Tryz.zeroValue9
 t20:=Tryz.underlying20
 a20:=Tryz.isAgg20
 z20:=Tryz.sizeOf20
 v20:=Tryz.zeroValue20
 t22:=Tryz.underlying94
 a22:=Tryz.isAgg94
 z22:=Tryz.sizeOf94
 v22:=Tryz.zeroValue94 }
end Go.Proofs
namespace Go.Proofs.YtifeihnhkbagpaaGreatDoor.N
open ChangeShapes WideShapes ChangeAt RowKit
structure Pc where
 p:Option Addr
 n:Nat
 c:Nat
 cs:List Value
def yK (w:World) (sz b bo:Nat) (S:List Pc):Prop:=∀ i q,S[i]? = some q->w.cell? ⟨b,bo+i,none⟩=some (.slice q.p q.n q.c)/\Rw w sz q.p q.n q.c q.cs/\(q.p=none->q.c=0)/\∀ u∈q.cs,u.oneCell'=true
def jH (S:List Pc):Nat:=(S.map (·.n)).sum
def BP (S:List Pc):List Value:=S.flatMap (·.cs)
variable {i:Nat}{q:Pc}
theorem oq{S:List Pc}(h:S[i]? = some q):jH (S.take (i+1))=jH (S.take i)+q.n:=by
 unfold jH;rw[aaP,h];simp
theorem yL{S:List Pc}(h:S[i]? = some q):BP (S.take (i+1))=BP (S.take i)++q.cs:=by
 unfold BP;rw[aaP,h];simp
theorem FR(S:List Pc)(i:Nat):jH (S.take i)<=jH S:=by
 have e:jH S=jH (S.take i)+jH (S.drop i):=by
  unfold jH;rw[<- List.sum_append,<- List.map_append,aax]
 omega
variable {w:World}{sz b bo:Nat}
theorem yK.kept{w':World}{S:List Pc}(h:yK w sz b bo S)(k:Kept w w'):yK w' sz b bo S:=fun i q hq=>⟨k.cell (h i q hq).1,k.rw (h i q hq).2.1,(h i q hq).2.2⟩
theorem pJ{B:Nat}{e:TypeId}{p:Option Addr}{n c:Nat}{cs:List Value}(k:Own w B e sz p n c cs):∀ r,(Value.slice p n c).ownBlock=some r->B<=r:=by
 intro r hr;rcases k.cases with⟨rfl,_⟩|⟨g,cur,rfl,hB,_⟩
 ·cases hr
 ·injection hr with hr
  subst hr;exact hB
theorem Sc(n:Nat)(hn:n<=100000)(w:World):
 Calls Tryz.prog 234 #[.slice none 0 0,.int .i64 n] w fun e w'=>∃ p c,e=.returned (.slice p 0 c)/\Own w' w.heap.size 9 1 p 0 c []/\Kept w w':=by
 obtain⟨i0,hi,hz0,hz1,hz2⟩:=info_parts lX;by_cases h0:n=0
 ·subst h0
  refine (Any8.slices_Grow_room Tryz.grow71 none 0 0 0 w (aac _) (by omega) (by omega) (by omega)).mono ?_;rintro e w' ⟨rfl,rfl⟩;exact⟨_,_,rfl,⟨World.ownsRow_nil _ _ _ _⟩,Kept.refl _⟩
 ·refine (Any8.slices_Grow_grow Tryz.grow71 i0 (.string ⟨#[]⟩) hi hz0 (by rw[hz1];decide) none 0 0 n [] w (aac _) (by omega) (by rw[hz2];omega) (by omega) (by simp) (fun _=>rfl) (fun _ h=>by cases h)).mono ?_
  rintro e w' ⟨rfl,rfl⟩;have hG:=grownCap_ge w (0+n) 0 9;have hM:=grownCap_le_maxLen w (0+n) 0 9 (by unfold maxLen;omega);refine⟨_,_,rfl,⟨by simp,.inr ⟨w.heap.size,_,_,rfl,aac _,heap_alloc_new w.drew _,aag _,hM,?_,by simp⟩⟩,(Kept.refl w).drew.alloc _⟩;have hcz:((.string ⟨#[]⟩):Value).cells.size=1:=rfl;rw[Array.size_append,Array.size_append,size_zeroCells,size_zeroCells,hcz,List.size_toArray,aaQ,aaj,<- Nat.add_mul];congr 1;show 0+n-0+(grownCap w (0+n) 0 9-(0+n))=grownCap w (0+n) 0 9;omega
theorem Si(n:Nat)(hn:n<=100000)(w:World):
 Calls Tryz.prog 235 #[.slice none 0 0,.int .i64 n] w fun e w'=>∃ p c,e=.returned (.slice p 0 c)/\Own w' w.heap.size 77 3 p 0 c []/\Kept w w':=by
 obtain⟨i0,hi,hz0,hz1,hz2⟩:=info_parts sj;by_cases h0:n=0
 ·subst h0
  refine (Any8.slices_Grow_room Tryz.grow72 none 0 0 0 w (aac _) (by omega) (by omega) (by omega)).mono ?_;rintro e w' ⟨rfl,rfl⟩;exact⟨_,_,rfl,⟨World.ownsRow_nil _ _ _ _⟩,Kept.refl _⟩
 ·refine (Any8.slices_Grow_grow Tryz.grow72 i0 (.agg #[.string ⟨#[]⟩,.int .i64 0,.int .i64 0]) hi hz0 (by rw[hz1];decide) none 0 0 n [] w (aac _) (by omega) (by rw[hz2];omega) (by omega) (by simp) (fun _=>rfl) (fun _ h=>by cases h)).mono ?_
  rintro e w' ⟨rfl,rfl⟩;have hG:=grownCap_ge w (0+n) 0 77;have hM:=grownCap_le_maxLen w (0+n) 0 77 (by unfold maxLen;omega);refine⟨_,_,rfl,⟨by simp,.inr ⟨w.heap.size,_,_,rfl,aac _,heap_alloc_new w.drew _,aag _,hM,?_,by simp⟩⟩,(Kept.refl w).drew.alloc _⟩;have hcz:((.agg #[.string ⟨#[]⟩,.int .i64 0,.int .i64 0]):Value).cells.size=3:=rfl;rw[Array.size_append,Array.size_append,size_zeroCells,size_zeroCells,hcz,List.size_toArray,aaQ,aaj,<- Nat.add_mul];congr 1;show 0+n-0+(grownCap w (0+n) 0 77-(0+n))=grownCap w (0+n) 0 77;omega
theorem Sj(n:Nat)(hn:n<=100000)(w:World):
 Calls Tryz.prog 236 #[.slice none 0 0,.int .i64 n] w fun e w'=>∃ p c,e=.returned (.slice p 0 c)/\Own w' w.heap.size 3 1 p 0 c []/\Kept w w':=by
 obtain⟨i0,hi,hz0,hz1,hz2⟩:=info_parts info3;by_cases h0:n=0
 ·subst h0
  refine (Any8.slices_Grow_room Tryz.grow73 none 0 0 0 w (aac _) (by omega) (by omega) (by omega)).mono ?_;rintro e w' ⟨rfl,rfl⟩;exact⟨_,_,rfl,⟨World.ownsRow_nil _ _ _ _⟩,Kept.refl _⟩
 ·refine (Any8.slices_Grow_grow Tryz.grow73 i0 (.int .i64 0) hi hz0 (by rw[hz1];decide) none 0 0 n [] w (aac _) (by omega) (by rw[hz2];omega) (by omega) (by simp) (fun _=>rfl) (fun _ h=>by cases h)).mono ?_
  rintro e w' ⟨rfl,rfl⟩;have hG:=grownCap_ge w (0+n) 0 3;have hM:=grownCap_le_maxLen w (0+n) 0 3 (by unfold maxLen;omega);refine⟨_,_,rfl,⟨by simp,.inr ⟨w.heap.size,_,_,rfl,aac _,heap_alloc_new w.drew _,aag _,hM,?_,by simp⟩⟩,(Kept.refl w).drew.alloc _⟩;have hcz:((.int .i64 0):Value).cells.size=1:=rfl;rw[Array.size_append,Array.size_append,size_zeroCells,size_zeroCells,hcz,List.size_toArray,aaQ,aaj,<- Nat.add_mul];congr 1;show 0+n-0+(grownCap w (0+n) 0 3-(0+n))=grownCap w (0+n) 0 3;omega
variable {m mc:Nat}
theorem DN{S:List Pc}(h:yK w 1 b bo S)(hm:S.length=m)(YF:m<=3)(hn:jH S<=100000):
 Calls Tryz.prog 217 #[.slice (some ⟨b,bo,none⟩) m mc] w fun e w'=>∃ p c,e=.returned (.slice p (jH S) c)/\Own w' w.heap.size 9 1 p (jH S) c (BP S)/\Kept w w':=by
  have HS:Hid (yK w 1 b bo S):=h;have HM:Hid (S.length=m):=hm;have HLE:Hid (∀ i,jH (S.take i)<=100000):=fun i=>aad (FR S i) hn
  have HALL:Hid (S.take m=S):=by show _=_;rw[<- hm];exact List.take_length
  have HGR:Hid (Calls Tryz.prog 234 #[.slice none 0 0,.int .i64 ((jH (S.take m):Nat):Int)] w fun e w'=>∃ p c,e=.returned (.slice p 0 c)/\Own w' w.heap.size 9 1 p 0 c []/\Kept w w'):=Sc _ (HLE.out m) w;obtain⟨i0,hi,hz0,hz1,hz2⟩:=info_parts lX;clear h hm hn;go_enter Tryz.func217,Tryz.ntmps217;go_wp2;go_loopg [3,11] m (fun gg sv iv wx=>∃ i:Nat,sv=.int .i64 ((jH (S.take i):Nat):Int)/\iv=.int .i64 (i:Nat)/\Hid (gg=m-i)/\i<=m/\wx=w);case atStart=>exact⟨0,rfl,rfl,rfl,aag _,rfl⟩
  case round=>
    obtain⟨i,rfl,rfl,hg,hin,rfl⟩:=hrel;by_cases h1:i<m
    · have h1':(i:Int)<(m:Int):=by omega
      obtain⟨q,hq⟩:∃ q,S[i]? = some q:=⟨_,aae (by rw[HM.out];exact h1)⟩;have HE:Hid (jH (S.take (i+1))=jH (S.take i)+q.n):=oq hq;have c0:=(HS.out i q hq).1;have hle:=HLE.out (i+1);rw[HE.out]at hle;obtain⟨qp,qn,qc,qs⟩:=q;simp only at c0 hle;clear hq;generalize jH (S.take i)=a at *;have u1:IntKind.i64.wrap ((a:Int)+(qn:Int))=(a:Int)+(qn:Int):=by rw[IntKind.wrap_i64];omega
      have u2:¬ ((a:Int)+(qn:Int)<0):=by omega
      go_wp2;go_roundg (m-(i+1));case measure=>rw[hg.out];omega
      case rel=>exact⟨i+1,by rw[HE.out];go_num,by go_num,rfl,by omega,rfl⟩
    · obtain rfl:m=i:=by omega
      have h1':¬ ((m:Int)<(m:Int)):=by omega
      go_wp2_with (first
        | (go_at_call 234
           (with_reducible refine HGR.out.mono ?_)
           rintro e v1 ⟨p0,c0,rfl,O0,k0⟩))
      go_loopg [6,27] m (fun gg sv iv wx=>∃ (i:Nat) (p:Option Addr) (c:Nat),sv=.slice p (jH (S.take i)) c/\iv=.int .i64 (i:Nat)/\Hid (gg=m-i)/\i<=m/\Own wx wr.heap.size 9 1 p (jH (S.take i)) c (BP (S.take i))/\Kept wr wx);case atStart=>exact⟨0,p0,c0,rfl,rfl,rfl,aag _,O0,k0⟩
      case round=>
        obtain⟨i,p,c,rfl,rfl,hg,hin,O,K⟩:=hrel;by_cases h1:i<m
        · have h1':(i:Int)<(m:Int):=by omega
          obtain⟨q,hq⟩:∃ q,S[i]? = some q:=⟨_,aae (by rw[HM.out];exact h1)⟩;have HE:Hid (jH (S.take (i+1))=jH (S.take i)+q.n):=oq hq;have HC:Hid (BP (S.take (i+1))=BP (S.take i)++q.cs):=yL hq;have e0:=HS.out i q hq;have d0:=K.cell e0.1;have hle:=HLE.out (i+1);rw[HE.out]at hle;have HR:Hid (Rw _ 1 q.p q.n q.c q.cs):=K.rw e0.2.1;have HON:Hid (∀ u∈q.cs,u.oneCell'=true):=e0.2.2.2;have hpn:=e0.2.2.1;obtain⟨qp,qn,qc,qs⟩:=q;simp only at d0 hle hpn;clear hq e0;have HO:Hid (World.ownsRow _ _ _ _ _ _ _):=O.out;rcases HR.out.out with⟨e1,e2⟩|⟨qb,qo,e1,hqc⟩
          · simp only at e1 e2
            subst e1;subst e2;obtain rfl:=hpn rfl;go_wp2_with (at_builtin;refine wpList_append_own_none rfl _ _ 49 rfl _ 9 i0 1 Tryz.underlying49 hi _ _ _ rfl HO.out rfl ?_);go_roundg (m-(i+1));case measure=>rw[hg.out];omega
            case rel=>
              have eq:qs=[]:=aaL.1 (by have:=HR.out.len;simpa using this);refine⟨i+1,p,c,by rw[HE.out];rfl,by go_num,rfl,by omega,?_,K⟩;rw[HE.out,HC.out,eq];simpa using O
          · simp only at e1
            subst e1;have HQ:Hid (∀ j u,qs[j]? = some u->wr.cell? ⟨qb,qo+j,none⟩=some u):=hqc;clear hqc;go_wp2_with (at_builtin;refine wpList_append_own _ rfl _ _ 49 rfl _ 9 i0 (.string ⟨#[]⟩) 1 16 Tryz.underlying49 hi hz0 hz1 hz2 rfl (by decide) _ _ _ rfl HO.out ⟨qb,qo,none⟩ qn qc qs rfl ?qc1 ?qc2 ?qc3 ?qc4 ?qc5 ?qc6 ?_);case qc1=>have:=HR.out.len;simpa using this
            case qc2=>
              intro j u hj;first | exact HQ.out j u hj|(rw[Addr.add_lit];exact HQ.out j u hj)
            case qc3=>exact HON.out
            case qc4=>unfold maxLen;omega
            case qc5=>omega
            case qc6=>exact K.size
            intro v' w1 hown hgrow hnil;obtain⟨p',c',rfl⟩:=aF hown;go_wp2;go_roundg (m-(i+1));case measure=>rw[hg.out];omega
            case rel=>
              refine⟨i+1,p',c',by rw[HE.out],by go_num,rfl,by omega,?_,aL _ K hgrow (aac _) (pJ O)⟩;rw[HE.out,HC.out];exact⟨hown⟩
        · obtain rfl:m=i:=by omega
          have h1':¬ ((m:Int)<(m:Int)):=by omega
          go_wp2;go_ret;rw[HALL.out]at O;exact⟨p,c,by rw[HALL.out];rfl,O,K⟩
theorem Oi{S:List Pc}(h:yK w 3 b bo S)(hm:S.length=m)(YF:m<=3)(hn:jH S<=100000):
 Calls Tryz.prog 218 #[.slice (some ⟨b,bo,none⟩) m mc] w fun e w'=>∃ p c,e=.returned (.slice p (jH S) c)/\Own w' w.heap.size 77 3 p (jH S) c (BP S)/\Kept w w':=by
  have HS:Hid (yK w 3 b bo S):=h;have HM:Hid (S.length=m):=hm;have HLE:Hid (∀ i,jH (S.take i)<=100000):=fun i=>aad (FR S i) hn
  have HALL:Hid (S.take m=S):=by show _=_;rw[<- hm];exact List.take_length
  have HGR:Hid (Calls Tryz.prog 235 #[.slice none 0 0,.int .i64 ((jH (S.take m):Nat):Int)] w fun e w'=>∃ p c,e=.returned (.slice p 0 c)/\Own w' w.heap.size 77 3 p 0 c []/\Kept w w'):=Si _ (HLE.out m) w;obtain⟨i0,hi,hz0,hz1,hz2⟩:=info_parts sj;clear h hm hn;go_enter Tryz.func218,Tryz.ntmps218;go_wp2;go_loopg [3,11] m (fun gg sv iv wx=>∃ i:Nat,sv=.int .i64 ((jH (S.take i):Nat):Int)/\iv=.int .i64 (i:Nat)/\Hid (gg=m-i)/\i<=m/\wx=w);case atStart=>exact⟨0,rfl,rfl,rfl,aag _,rfl⟩
  case round=>
    obtain⟨i,rfl,rfl,hg,hin,rfl⟩:=hrel;by_cases h1:i<m
    · have h1':(i:Int)<(m:Int):=by omega
      obtain⟨q,hq⟩:∃ q,S[i]? = some q:=⟨_,aae (by rw[HM.out];exact h1)⟩;have HE:Hid (jH (S.take (i+1))=jH (S.take i)+q.n):=oq hq;have c0:=(HS.out i q hq).1;have hle:=HLE.out (i+1);rw[HE.out]at hle;obtain⟨qp,qn,qc,qs⟩:=q;simp only at c0 hle;clear hq;generalize jH (S.take i)=a at *;have u1:IntKind.i64.wrap ((a:Int)+(qn:Int))=(a:Int)+(qn:Int):=by rw[IntKind.wrap_i64];omega
      have u2:¬ ((a:Int)+(qn:Int)<0):=by omega
      go_wp2;go_roundg (m-(i+1));case measure=>rw[hg.out];omega
      case rel=>exact⟨i+1,by rw[HE.out];go_num,by go_num,rfl,by omega,rfl⟩
    · obtain rfl:m=i:=by omega
      have h1':¬ ((m:Int)<(m:Int)):=by omega
      go_wp2_with (first
        | (go_at_call 235
           (with_reducible refine HGR.out.mono ?_)
           rintro e v1 ⟨p0,c0,rfl,O0,k0⟩))
      go_loopg [6,27] m (fun gg sv iv wx=>∃ (i:Nat) (p:Option Addr) (c:Nat),sv=.slice p (jH (S.take i)) c/\iv=.int .i64 (i:Nat)/\Hid (gg=m-i)/\i<=m/\Own wx wr.heap.size 77 3 p (jH (S.take i)) c (BP (S.take i))/\Kept wr wx);case atStart=>exact⟨0,p0,c0,rfl,rfl,rfl,aag _,O0,k0⟩
      case round=>
        obtain⟨i,p,c,rfl,rfl,hg,hin,O,K⟩:=hrel;by_cases h1:i<m
        · have h1':(i:Int)<(m:Int):=by omega
          obtain⟨q,hq⟩:∃ q,S[i]? = some q:=⟨_,aae (by rw[HM.out];exact h1)⟩;have HE:Hid (jH (S.take (i+1))=jH (S.take i)+q.n):=oq hq;have HC:Hid (BP (S.take (i+1))=BP (S.take i)++q.cs):=yL hq;have e0:=HS.out i q hq;have d0:=K.cell e0.1;have hle:=HLE.out (i+1);rw[HE.out]at hle;have HR:Hid (Rw _ 3 q.p q.n q.c q.cs):=K.rw e0.2.1;have HON:Hid (∀ u∈q.cs,u.oneCell'=true):=e0.2.2.2;have hpn:=e0.2.2.1;obtain⟨qp,qn,qc,qs⟩:=q;simp only at d0 hle hpn;clear hq e0;have HO:Hid (World.ownsRow _ _ _ _ _ _ _):=O.out;rcases HR.out.out with⟨e1,e2⟩|⟨qb,qo,e1,hqc⟩
          · simp only at e1 e2
            subst e1;subst e2;obtain rfl:=hpn rfl;go_wp2_with (at_builtin;refine wpList_append_own_none rfl _ _ 119 rfl _ 77 i0 3 Tryz.underlying119 hi _ _ _ rfl HO.out rfl ?_);go_roundg (m-(i+1));case measure=>rw[hg.out];omega
            case rel=>
              have eq:qs=[]:=aaL.1 (by have:=HR.out.len;simpa using this);refine⟨i+1,p,c,by rw[HE.out];rfl,by go_num,rfl,by omega,?_,K⟩;rw[HE.out,HC.out,eq];simpa using O
          · simp only at e1
            subst e1;have HQ:Hid (∀ j u,qs[j]? = some u->wr.cell? ⟨qb,qo+j,none⟩=some u):=hqc;clear hqc;go_wp2_with (at_builtin;refine wpList_append_own _ rfl _ _ 119 rfl _ 77 i0 (.agg #[.string ⟨#[]⟩,.int .i64 0,.int .i64 0]) 3 32 Tryz.underlying119 hi hz0 hz1 hz2 rfl (by decide) _ _ _ rfl HO.out ⟨qb,qo,none⟩ qn qc qs rfl ?qc1 ?qc2 ?qc3 ?qc4 ?qc5 ?qc6 ?_);case qc1=>have:=HR.out.len;simpa using this
            case qc2=>
              intro j u hj;first | exact HQ.out j u hj|(rw[Addr.add_lit];exact HQ.out j u hj)
            case qc3=>exact HON.out
            case qc4=>unfold maxLen;omega
            case qc5=>omega
            case qc6=>exact K.size
            intro v' w1 hown hgrow hnil;obtain⟨p',c',rfl⟩:=aF hown;go_wp2;go_roundg (m-(i+1));case measure=>rw[hg.out];omega
            case rel=>
              refine⟨i+1,p',c',by rw[HE.out],by go_num,rfl,by omega,?_,aL _ K hgrow (aac _) (pJ O)⟩;rw[HE.out,HC.out];exact⟨hown⟩
        · obtain rfl:m=i:=by omega
          have h1':¬ ((m:Int)<(m:Int)):=by omega
          go_wp2;go_ret;rw[HALL.out]at O;exact⟨p,c,by rw[HALL.out];rfl,O,K⟩
theorem Oj{S:List Pc}(h:yK w 1 b bo S)(hm:S.length=m)(YF:m<=3)(hn:jH S<=100000):
 Calls Tryz.prog 219 #[.slice (some ⟨b,bo,none⟩) m mc] w fun e w'=>∃ p c,e=.returned (.slice p (jH S) c)/\Own w' w.heap.size 3 1 p (jH S) c (BP S)/\Kept w w':=by
  have HS:Hid (yK w 1 b bo S):=h;have HM:Hid (S.length=m):=hm;have HLE:Hid (∀ i,jH (S.take i)<=100000):=fun i=>aad (FR S i) hn
  have HALL:Hid (S.take m=S):=by show _=_;rw[<- hm];exact List.take_length
  have HGR:Hid (Calls Tryz.prog 236 #[.slice none 0 0,.int .i64 ((jH (S.take m):Nat):Int)] w fun e w'=>∃ p c,e=.returned (.slice p 0 c)/\Own w' w.heap.size 3 1 p 0 c []/\Kept w w'):=Sj _ (HLE.out m) w;obtain⟨i0,hi,hz0,hz1,hz2⟩:=info_parts info3;clear h hm hn;go_enter Tryz.func219,Tryz.ntmps219;go_wp2;go_loopg [3,11] m (fun gg sv iv wx=>∃ i:Nat,sv=.int .i64 ((jH (S.take i):Nat):Int)/\iv=.int .i64 (i:Nat)/\Hid (gg=m-i)/\i<=m/\wx=w);case atStart=>exact⟨0,rfl,rfl,rfl,aag _,rfl⟩
  case round=>
    obtain⟨i,rfl,rfl,hg,hin,rfl⟩:=hrel;by_cases h1:i<m
    · have h1':(i:Int)<(m:Int):=by omega
      obtain⟨q,hq⟩:∃ q,S[i]? = some q:=⟨_,aae (by rw[HM.out];exact h1)⟩;have HE:Hid (jH (S.take (i+1))=jH (S.take i)+q.n):=oq hq;have c0:=(HS.out i q hq).1;have hle:=HLE.out (i+1);rw[HE.out]at hle;obtain⟨qp,qn,qc,qs⟩:=q;simp only at c0 hle;clear hq;generalize jH (S.take i)=a at *;have u1:IntKind.i64.wrap ((a:Int)+(qn:Int))=(a:Int)+(qn:Int):=by rw[IntKind.wrap_i64];omega
      have u2:¬ ((a:Int)+(qn:Int)<0):=by omega
      go_wp2;go_roundg (m-(i+1));case measure=>rw[hg.out];omega
      case rel=>exact⟨i+1,by rw[HE.out];go_num,by go_num,rfl,by omega,rfl⟩
    · obtain rfl:m=i:=by omega
      have h1':¬ ((m:Int)<(m:Int)):=by omega
      go_wp2_with (first
        | (go_at_call 236
           (with_reducible refine HGR.out.mono ?_)
           rintro e v1 ⟨p0,c0,rfl,O0,k0⟩))
      go_loopg [6,27] m (fun gg sv iv wx=>∃ (i:Nat) (p:Option Addr) (c:Nat),sv=.slice p (jH (S.take i)) c/\iv=.int .i64 (i:Nat)/\Hid (gg=m-i)/\i<=m/\Own wx wr.heap.size 3 1 p (jH (S.take i)) c (BP (S.take i))/\Kept wr wx);case atStart=>exact⟨0,p0,c0,rfl,rfl,rfl,aag _,O0,k0⟩
      case round=>
        obtain⟨i,p,c,rfl,rfl,hg,hin,O,K⟩:=hrel;by_cases h1:i<m
        · have h1':(i:Int)<(m:Int):=by omega
          obtain⟨q,hq⟩:∃ q,S[i]? = some q:=⟨_,aae (by rw[HM.out];exact h1)⟩;have HE:Hid (jH (S.take (i+1))=jH (S.take i)+q.n):=oq hq;have HC:Hid (BP (S.take (i+1))=BP (S.take i)++q.cs):=yL hq;have e0:=HS.out i q hq;have d0:=K.cell e0.1;have hle:=HLE.out (i+1);rw[HE.out]at hle;have HR:Hid (Rw _ 1 q.p q.n q.c q.cs):=K.rw e0.2.1;have HON:Hid (∀ u∈q.cs,u.oneCell'=true):=e0.2.2.2;have hpn:=e0.2.2.1;obtain⟨qp,qn,qc,qs⟩:=q;simp only at d0 hle hpn;clear hq e0;have HO:Hid (World.ownsRow _ _ _ _ _ _ _):=O.out;rcases HR.out.out with⟨e1,e2⟩|⟨qb,qo,e1,hqc⟩
          · simp only at e1 e2
            subst e1;subst e2;obtain rfl:=hpn rfl;go_wp2_with (at_builtin;refine wpList_append_own_none rfl _ _ 94 rfl _ 3 i0 1 Tryz.underlying94 hi _ _ _ rfl HO.out rfl ?_);go_roundg (m-(i+1));case measure=>rw[hg.out];omega
            case rel=>
              have eq:qs=[]:=aaL.1 (by have:=HR.out.len;simpa using this);refine⟨i+1,p,c,by rw[HE.out];rfl,by go_num,rfl,by omega,?_,K⟩;rw[HE.out,HC.out,eq];simpa using O
          · simp only at e1
            subst e1;have HQ:Hid (∀ j u,qs[j]? = some u->wr.cell? ⟨qb,qo+j,none⟩=some u):=hqc;clear hqc;go_wp2_with (at_builtin;refine wpList_append_own _ rfl _ _ 94 rfl _ 3 i0 (.int .i64 0) 1 8 Tryz.underlying94 hi hz0 hz1 hz2 rfl (by decide) _ _ _ rfl HO.out ⟨qb,qo,none⟩ qn qc qs rfl ?qc1 ?qc2 ?qc3 ?qc4 ?qc5 ?qc6 ?_);case qc1=>have:=HR.out.len;simpa using this
            case qc2=>
              intro j u hj;first | exact HQ.out j u hj|(rw[Addr.add_lit];exact HQ.out j u hj)
            case qc3=>exact HON.out
            case qc4=>unfold maxLen;omega
            case qc5=>omega
            case qc6=>exact K.size
            intro v' w1 hown hgrow hnil;obtain⟨p',c',rfl⟩:=aF hown;go_wp2;go_roundg (m-(i+1));case measure=>rw[hg.out];omega
            case rel=>
              refine⟨i+1,p',c',by rw[HE.out],by go_num,rfl,by omega,?_,aL _ K hgrow (aac _) (pJ O)⟩;rw[HE.out,HC.out];exact⟨hown⟩
        · obtain rfl:m=i:=by omega
          have h1':¬ ((m:Int)<(m:Int)):=by omega
          go_wp2;go_ret;rw[HALL.out]at O;exact⟨p,c,by rw[HALL.out];rfl,O,K⟩
