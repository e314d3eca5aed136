/- Joined. -/
import Derived.Test.YtafgecaeiodmiaaGreatDoorZbl
import Derived.Test.YtafgecaeiodmiaaGreatDoorZbm
namespace Go.Proofs.YtafgecaeiodmiaaGreatDoor.T
open Go.ChangeShapes Go.WideShapes Go.ChangeAt Go.RowKit
open B (Pm Mk En upd Tree Ord R)
open N (Kept Rw Rx Vl sl)
theorem Rd.of{M:Pm}{root:Int}{l:List En}(h:TreeW M root l):∃ Z,Rd M root l Z:=by
 rcases h.out with⟨a,b⟩|⟨d,n,a,b,c,o,k⟩
 ·exact⟨[],⟨.inl ⟨a,b,rfl⟩⟩⟩
 ·exact⟨_,⟨.inr ⟨d,n,a,b,c,o,rfl,k⟩⟩⟩
theorem Gs.seek{w W:World}{t p:Nat}{kp:Option Addr}{n kc:Nat}{l' l:List En}(h:Gs w W t p kp n kc l' l):∃ Z,Hid (∀ W' key,Kept W W'→Calls Tryz.prog 25 #[.pointer (some ⟨t,0,none⟩),.string key] W' (SkPost l' Z key W')):=by
 obtain⟨B,r,M,hB,V⟩:=h.vw;obtain⟨Z,hZ⟩:=Rd.of V.readable;exact⟨Z,fun W' key k=>seek_walk (V.kept k).tat (V.kept k).pv hZ key⟩
set_option maxRecDepth 100000 in
set_option maxHeartbeats 1000000 in
theorem seek_none(w:World)(key:ByteArray):Calls Tryz.prog 25 #[.pointer none,.string key] w (SkPost [] [] key w):=by
 have k1:Kept w (w.alloc (.cells #[.bool false,.slice none 0 0,.slice none 0 0,.slice none 0 0,.string ⟨#[]⟩,.bool false] 73)):=(Kept.refl w).alloc _;have R0:(w.alloc (.cells #[.bool false,.slice none 0 0,.slice none 0 0,.slice none 0 0,.string ⟨#[]⟩,.bool false] 73)).heap[w.heap.size]? = some (.cells #[.bool false,.slice none 0 0,.slice none 0 0,.slice none 0 0,.string ⟨#[]⟩,.bool false] 73):=heap_alloc_new w _;have R1:=((Kept.refl _).alloc (.cells #[.bool false,.slice none 0 0,.slice none 0 0,.slice none 0 0,.string ⟨#[]⟩,.bool true] 73)).block R0;obtain⟨⟨a0,f0⟩,⟨a1,f1⟩,⟨a2,f2⟩,⟨a3,f3⟩,⟨a4,f4⟩,⟨a5,f5⟩,hfin⟩:=ready6 R1 (.bool false) (.slice none 0 0) (.slice none 0 0) (.slice none 0 0) (.string ⟨#[]⟩) (.bool true);have fr:=root_nil ((w.alloc (.cells #[.bool false,.slice none 0 0,.slice none 0 0,.slice none 0 0,.string ⟨#[]⟩,.bool false] 73)).alloc (.cells #[.bool false,.slice none 0 0,.slice none 0 0,.slice none 0 0,.string ⟨#[]⟩,.bool true] 73));clear k1 R0 R1;go_enter Tryz.func25,Tryz.ntmps25;go_wp2_with (go_at_call 16;(with_reducible refine fr.mono ?_);rintro e w1 ⟨rfl,hw1⟩;rw[hw1];clear hw1);have ka:Kept w (w.alloc (.cells #[.bool false,.slice none 0 0,.slice none 0 0,.slice none 0 0,.string ⟨#[]⟩,.bool true] 73)):=(Kept.refl w).alloc _;have q2:=ka.alloc (.cells #[.bool false,.slice none 0 0,.slice none 0 0,.slice none 0 0,.string ⟨#[]⟩,.bool true] 73);have hf2:=((Kept.refl _).alloc (.cells #[.bool false,.slice none 0 0,.slice none 0 0,.slice none 0 0,.string ⟨#[]⟩,.bool true] 73)).block (heap_alloc_new w (.cells #[.bool false,.slice none 0 0,.slice none 0 0,.slice none 0 0,.string ⟨#[]⟩,.bool true] 73))
 refine bodyPost_ret (v:=.tuple #[.agg #[.bool false,.slice none 0 0,.slice none 0 0,.slice none 0 0,.string ⟨#[]⟩,.bool true],.int .i64 0]) ?_ rfl ⟨_,_,_,_,_,_,_,_,_,_,_,_,_,rfl,nv_nil _,⟨List.Pairwise.nil,Nat.zero_le _⟩,⟨.inl ⟨rfl,rfl⟩,(fun h=>by cases h),rfl⟩,q2⟩;exact N.results_two (p:=4) (u:=5) (ty:=73) rfl _ _ w.heap.size 73 #[.bool false,.slice none 0 0,.slice none 0 0,.slice none 0 0,.string ⟨#[]⟩,.bool true] (0,0) _ rfl hf2 Tryz.underlying73 rfl size73
def awS (j:Nat):ByteArray:=if j=0 then ⟨#[98]⟩ else ⟨#[97]⟩
theorem awake_list:rng ⟨#[]⟩ ⟨#[122]⟩ 9 (begl awS (min 2 100))=[(⟨#[97]⟩,⟨⟨#[98]⟩,-1,0⟩),(⟨#[98]⟩,⟨⟨#[97]⟩,-1,0⟩)]:=by
 have e0:cut40 ⟨#[98]⟩=⟨#[98]⟩:=by rfl
 have e1:cut40 ⟨#[97]⟩=⟨#[97]⟩:=by rfl
 have v0:vof 0=⟨#[97]⟩:=by rfl
 have v1:vof 1=⟨#[98]⟩:=by rfl
 have s1:sl ⟨#[98]⟩ ⟨#[97]⟩=false:=by unfold sl;rw[N.toList_eq,N.toList_eq];decide
 have s2:sl ⟨#[97]⟩ ⟨#[98]⟩=true:=by unfold sl;rw[N.toList_eq,N.toList_eq];decide
 have s3:sl ⟨#[97]⟩ ⟨#[]⟩=false:=by unfold sl;rw[N.toList_eq,N.toList_eq];decide
 have s4:sl ⟨#[98]⟩ ⟨#[]⟩=false:=by unfold sl;rw[N.toList_eq,N.toList_eq];decide
 have s5:sl ⟨#[97]⟩ ⟨#[122]⟩=true:=by unfold sl;rw[N.toList_eq,N.toList_eq];decide
 have s6:sl ⟨#[98]⟩ ⟨#[122]⟩=true:=by unfold sl;rw[N.toList_eq,N.toList_eq];decide
 have hb:begl awS (min 2 100)=[(⟨#[97]⟩,⟨⟨#[98]⟩,-1,0⟩),(⟨#[98]⟩,⟨⟨#[97]⟩,-1,0⟩)]:=by
  show upd (cut40 (awS 1)) [(cut40 (awS 1),⟨vof 1,-1,0⟩)] (upd (cut40 (awS 0)) [(cut40 (awS 0),⟨vof 0,-1,0⟩)] [])=_;have a1:awS 1=⟨#[97]⟩:=rfl;have a0:awS 0=⟨#[98]⟩:=rfl;rw[a1,a0,e0,e1,v0,v1];simp[upd,s1,s2]
 rw[hb];simp[rng,frm,s3,s4,s5,s6]
set_option maxRecDepth 100000 in
set_option maxHeartbeats 1000000 in
theorem awake_walk{w:World}(hL:S.Lds w):Calls Tryz.prog 11 #[] w fun e w'=>e=.returned (.bool true)∧Kept w w':=by
 have ka:Kept w (w.alloc (.cells #[.string ⟨#[98]⟩,.string ⟨#[97]⟩] 9)):=(Kept.refl w).alloc _;have f1:=begun_walk (ca:=2) (lds_kept hL ka) (pa:=some ⟨w.heap.size,0,none⟩) (na:=2) ⟨w.heap.size,0,awS,by omega,fun _=>rfl,fun j hj=>by
  rw[cell_of_row _ _ _ _ _ _ (heap_alloc_new w _)]
  rcases j with _ | _ | j
  ·rfl
  ·rfl
  ·omega⟩
 have f2:Hid (∀ W t p kp n kc,Gs (w.alloc (.cells #[.string ⟨#[98]⟩,.string ⟨#[97]⟩] 9)) W t p kp n kc (begl awS (min 2 100)) (begl awS (min 2 100))→Calls Tryz.prog 9 #[.pointer (some ⟨t,0,none⟩),.string ⟨#[]⟩,.string ⟨#[122]⟩,.int .i64 9] W fun e w'=>∃ qb qo c,e=.returned (.tuple #[.slice (some ⟨qb,qo,none⟩) 2 c,.int .i64 0])∧(w'.cell? ⟨qb,qo,none⟩=some (.string ⟨#[97]⟩)∧w'.cell? ⟨qb,qo+5,none⟩=some (.string ⟨#[97]⟩))∧Kept w w'):=fun W t p kp n kc h=>by
  obtain⟨Z,HS⟩:=h.seek;have:=range_walk (s:=⟨#[]⟩) (tz:=⟨#[122]⟩) (most:=9) HS (by decide);refine this.mono ?_;rintro e w' ⟨q,n,c,rfl,hR,k⟩;rw[awake_list]at hR;have hn:n=2:=by have:=hR.len;simp[pcl,pcl1]at this;omega
  subst hn;rcases hR.out with⟨_,h0⟩|⟨qb,qo,rfl,hc⟩
  ·omega
  ·exact⟨qb,qo,c,rfl,⟨hc 0 _ rfl,hc 5 _ rfl⟩,(ka.trans h.low).trans k⟩
 clear hL;go_enter Tryz.func11,Tryz.ntmps11;go_wp2_with (first
  | (go_at_call 8;(with_reducible refine f1.mono ?_);rintro e w1 ⟨t,p,kp,n,kc,rfl,G1⟩;have g2:=f2.out _ t p kp n kc G1;clear f1 G1)
  | (go_at_call 9;(with_reducible refine g2.mono ?_);rintro e w2 ⟨qb,qo,c,rfl,⟨c0,c5⟩,K2⟩;clear g2))
 go_ret;exact⟨by first | rfl | decide,K2⟩
end Go.Proofs.YtafgecaeiodmiaaGreatDoor.T