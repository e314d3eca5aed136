/- Joined. -/
import Derived.Test.YtafgecaeiodmiaaGreatDoorZcb
import Derived.Laws.EntriesVeiled
namespace Go.Proofs.YtafgecaeiodmiaaGreatDoor.T
open Go.ChangeShapes Go.WideShapes Go.ChangeAt Go.RowKit
open B (Pm R Tr con fm pg pg_some Wf us nodup_few)
open N (Nd NV Rw Rx Own Kept icl vcl Vl C4 C3 blk)
theorem run_func_nil(d:Nat)(f:Fn)(a c:Array Value)(W:World):(Op.equalIn (d+1) 52 (.func f a c) .nilFunc).run Tryz.prog W=.ok false W:=by
 simp[Op.equalIn,run_underlying Tryz.underlying52]
def PgPost (w0:World) (M:Pm) (d n:Nat) (e:Ending) (w':World):Prop:=
 ∃ q np c,e=.returned (.tuple #[.slice q np c,.int .i64 0])∧Rw w' 1 q np c (icl (pints (po M d n)))∧w'.heap[w0.heap.size]? = some (.cells #[.int .i64 (kys M d n:Nat)] 3)∧Kept w0 w'
set_option maxRecDepth 100000 in
set_option maxHeartbeats 2000000 in
theorem pages_some{B:Nat}{w0:World}{t p m d n:Nat}{M:Pm}(hT:TAt w0 t p (n:Nat))(hV:Pv B w0 p m M)(hTr:Tr M d n)(hk:kys M d n≤1000) :
  Calls Tryz.prog 14 #[.pointer (some ⟨t,0,none⟩),.func (.func 15) #[] #[.pointer (some ⟨w0.heap.size,0,none⟩)]] (w0.alloc (.cells #[.int .i64 0] 3)) (PgPost w0 M d n):=by
 have ka:Kept w0 (w0.alloc (.cells #[.int .i64 0] 3)):=(Kept.refl w0).alloc _;have fr:=root_walk (hT.kept ka);have hneg:¬ (n:Int)=-1:=by omega
 have mk:∀ W:World,(Instr.makeMap 77 none).run Tryz.prog W=.ok (.map (some W.heap.size)) (W.alloc (.map #[] 0)):=fun W=>rfl
 have hlt:∀ q∈pg M d n,q<m:=fun q hq=>by
  have h1:=hTr.cnt q;have h2:0<(pg M d n).count q:=List.count_pos_iff.2 hq;have h3:(M q).isSome=true:=by
   unfold us at h1;cases h:(M q).isSome with
   | true=>rfl
   | false=>rw[h]at h1;simp at h1;omega
  obtain⟨x,hx⟩:=Option.isSome_iff_exists.1 h3;exact (hV.rng q x hx).2.1
 have hfew:=hV.few;have hpl:=nodup_few m (pg M d n) (pg_nodup hTr) hlt;obtain⟨W3,hW3⟩:∃ W3,((w0.alloc (.cells #[.int .i64 0] 3)).alloc (.map #[] 0)).alloc (.cells #[.pointer (some ⟨t,0,none⟩),.func (.func 15) #[] #[.pointer (some ⟨w0.heap.size,0,none⟩)],.map (some (w0.heap.size+1)),.slice none 0 0] 79)=W3:=⟨_,rfl⟩;have k3:Kept w0 W3:=by rw[← hW3];exact (ka.alloc _).alloc _
 have kl:Kept ((w0.alloc (.cells #[.int .i64 0] 3)).alloc (.map #[] 0)) W3:=by rw[← hW3];exact (Kept.refl _).alloc _
 have b0:W3.heap[w0.heap.size]? = some (.cells #[.int .i64 0] 3):=kl.block (((Kept.refl _).alloc _).block (heap_alloc_new w0 _));have c4:C4 W3 (w0.heap.size+1+1) 79 (.pointer (some ⟨t,0,none⟩)) (.func (.func 15) #[] #[.pointer (some ⟨w0.heap.size,0,none⟩)]) (.map (some (w0.heap.size+1))) (.slice none 0 0):=⟨by
  rw[← hW3]
  have:=heap_alloc_new ((w0.alloc (.cells #[.int .i64 0] 3)).alloc (.map #[] 0)) (.cells #[.pointer (some ⟨t,0,none⟩),.func (.func 15) #[] #[.pointer (some ⟨w0.heap.size,0,none⟩)],.map (some (w0.heap.size+1)),.slice none 0 0] 79)
  rwa [N.size_alloc,N.size_alloc]at this⟩
 have ms0:=MS.made (w0.alloc (.cells #[.int .i64 0] 3));rw[N.size_alloc]at ms0;have ms3:MS W3 (w0.heap.size+1) (fun _=>false):=ms0.same (kl.out.block _ ms0.lt);have H3:Wt w0 W3 t (w0.heap.size+1+1) (w0.heap.size+1) none 0 0 0 [] (fun _=>false):=⟨k3,c4,own_nil _ _ _ _,b0,ms3,by omega,by omega⟩;have fth:=through_walk hT hV d n W3 none 0 0 0 [] (fun _=>false) H3 hTr.wf hTr.ord (pg_nodup hTr) (fun q hq=>⟨rfl,by have:=hlt q hq;omega⟩) (by omega) (by omega);have hnf:∀ W:World,(Go.binOp .eql 52 (.func (.func 15) #[] #[.pointer (some ⟨w0.heap.size,0,none⟩)]) .nilFunc).run Tryz.prog W=.ok (.bool false) W:=fun W=>by
  simp only[Go.binOp];have:(Op.equal 52 (.func (.func 15) #[] #[.pointer (some ⟨w0.heap.size,0,none⟩)]) .nilFunc).run Tryz.prog W=.ok false W:=run_func_nil 9999 _ _ _ W;simp[this]
 have HW3:Hid (((w0.alloc (.cells #[.int .i64 0] 3)).alloc (.map #[] 0)).alloc (.cells #[.pointer (some ⟨t,0,none⟩),.func (.func 15) #[] #[.pointer (some ⟨w0.heap.size,0,none⟩)],.map (some (w0.heap.size+1)),.slice none 0 0] 79)=W3):=hW3;clear hW3 hT hV hTr hlt hfew hpl k3 kl b0 c4 ms0 ms3 H3;go_enter Tryz.func14,Tryz.ntmps14;go_wp2_with (first
  | (go_at_call 16;(with_reducible refine fr.mono ?_);rintro e w1 ⟨rfl,hw1⟩;rw[hw1];clear hw1 fr)
  | (go_at_call 28;rw[HW3.out];(with_reducible refine fth.mono ?_);rintro e w5 ⟨rfl,pp,np,pc,H5,F5⟩;obtain⟨q0,q1,q2,q3⟩:=H5.c4.cs;have HH5:Hid (Wt w0 w5 t (w0.heap.size+1+1) (w0.heap.size+1) pp np pc (0+kys M d n) ([]++po M d n) (fun q=>false || decide (q∈pg M d n))):=H5;clear H5 F5 fth))
 go_ret2;have h:=HH5.out;rw[Nat.zero_add,List.nil_append]at h;exact⟨pp,np,pc,rfl,h.own.rw,h.box,h.k⟩
set_option maxRecDepth 100000 in
theorem pages_nil{w0:World}{t p:Nat}(hT:TAt w0 t p (-1))(fv:Value) :
  Calls Tryz.prog 14 #[.pointer (some ⟨t,0,none⟩),fv] w0 fun e w'=>e=.returned (.tuple #[.slice none 0 0,.int .i64 0])∧w'=w0:=by
 have fr:=root_walk hT;go_enter Tryz.func14,Tryz.ntmps14;go_wp2_with (go_at_call 16;(with_reducible refine fr.mono ?_);rintro e w1 ⟨rfl,hw1⟩;rw[hw1];clear hw1);go_ret2;exact⟨rfl,rfl⟩
end Go.Proofs.YtafgecaeiodmiaaGreatDoor.T