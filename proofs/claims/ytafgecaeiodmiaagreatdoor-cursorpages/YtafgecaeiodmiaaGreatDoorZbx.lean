/- Joined. -/
import Derived.Test.YtafgecaeiodmiaaGreatDoorZbe
namespace Go.Proofs.YtafgecaeiodmiaaGreatDoor.T
open B (Pm Mk En R Tr Tree us us_le con con_append con_leaf con_sep leafm fmN fm fm_some fmN_inner inm inmL post pg pgN pg_some pgN_inner Wf WfN)
open N (Nd Vl)
def poN (M:Pm):Nat→Nd→List Nat
 | 0,_=>[]
 | d+1,x=>x.is.flatMap fun c=>(match M c.toNat with | some y=>poN M d y | none=>[])++[c.toNat]
def po (M:Pm) (d n:Nat):List Nat:=(match M n with | some y=>poN M d y | none=>[])++[n]
theorem poN_inner(M:Pm)(d:Nat)(x:Nd):poN M (d+1) x=x.is.flatMap fun c=>po M d c.toNat:=rfl
theorem po_some{M:Pm}{n:Nat}{y:Nd}(h:M n=some y)(d:Nat):po M d n=poN M d y++[n]:=by unfold po;rw[h]
theorem flat_perm{f g:Int→List Nat}:∀ (C:List Int),(∀ c∈C,(f c).Perm (g c))→(C.flatMap f).Perm (C.flatMap g)
 | [],_=>List.Perm.refl _
 | c :: r,h=>by
  rw[List.flatMap_cons,List.flatMap_cons];exact (h c (by simp)).append (flat_perm r fun c hc=>h c (by simp[hc]))
theorem po_perm{M:Pm}:∀ (d n:Nat),Wf M d n→(po M d n).Perm (pg M d n)
 | 0,n,h=>by
  obtain⟨y,hy,_⟩:=h;rw[po_some hy,pg_some hy];exact List.Perm.refl _
 | d+1,n,h=>by
  obtain⟨y,hy,_,_,hw⟩:=h;rw[po_some hy,pg_some hy,poN_inner,pgN_inner];refine (List.perm_append_comm).trans ?_;show List.Perm (n :: _) _;exact List.Perm.cons _ (flat_perm _ fun c hc=>po_perm d c.toNat (hw.2.2 c hc))
theorem con_inner(f:Nat→List Mk):∀ (S:List Int) (K:List ByteArray),S.length=K.length+1→con (inmL f S K)=S.flatMap fun c=>con (f c.toNat)
 | [],_,h=>by simp at h
 | [c],K,h=>by
  have:K=[]:=List.eq_nil_of_length_eq_zero (by simpa using h);subst this;simp[inmL,post]
 | c :: e :: r,K,h=>by
  cases K with
  | nil=>simp at h
  | cons k K=>
   have ih:=con_inner f (e :: r) K (by simpa using h);have e1:inmL f (c :: e :: r) (k :: K)=f c.toNat++((k,none) :: inmL f (e :: r) K):=by
    simp[inmL,post]
   rw[e1,con_append,con_sep,ih];simp
def kys (M:Pm) (d n:Nat):Nat:=(con (fm M d n)).length
theorem kys_leaf{M:Pm}{n:Nat}{y:Nd}(h:M n=some y)(g:y.vs.length=y.ks.length):kys M 0 n=y.vs.length:=by
 unfold kys;rw[fm_some h];show (con (leafm y)).length=_;rw[con_leaf,List.length_zip,g];simp
theorem kys_inner{M:Pm}{d n:Nat}{y:Nd}(h:M n=some y)(g:y.is.length=y.ks.length+1):kys M (d+1) n=(y.is.flatMap fun c=>con (fm M d c.toNat)).length:=by
 unfold kys;rw[fm_some h,fmN_inner];unfold inm;rw[con_inner _ _ _ g]
theorem flat_more{α:Type}{f:Int→List α}{C:List Int}{i:Nat}{c:Int}(h:C[i]? = some c):(C.take (i+1)).flatMap f=(C.take i).flatMap f++f c:=by
 rw[List.take_add_one,h,List.flatMap_append];simp
theorem flat_le{α:Type}{f:Int→List α}{C:List Int}(i:Nat):((C.take i).flatMap f).length≤(C.flatMap f).length:=by
 have h:C.flatMap f=(C.take i).flatMap f++(C.drop i).flatMap f:=by rw[← List.flatMap_append,List.take_append_drop]
 rw[h,List.length_append];omega
theorem flat_disj{f:Int→List Nat}{C:List Int}{i:Nat}{c:Int}(h:C[i]? = some c)(hn:(C.flatMap f).Nodup):∀ q∈f c,q∉(C.take i).flatMap f:=by
 intro q hq hq2;have e:C.flatMap f=(C.take i).flatMap f++(C.drop i).flatMap f:=by rw[← List.flatMap_append,List.take_append_drop]
 rw[e]at hn;have h2:q∈(C.drop i).flatMap f:=by
  rw[List.drop_eq_getElem_cons (List.getElem?_eq_some_iff.1 h).1,(List.getElem?_eq_some_iff.1 h).2,List.flatMap_cons];exact List.mem_append_left _ hq
 exact (List.nodup_append.1 hn).2.2 q hq2 q h2 rfl
theorem flat_nodup{f:Int→List Nat}{C:List Int}{i:Nat}{c:Int}(h:C[i]? = some c)(hn:(C.flatMap f).Nodup):(f c).Nodup:=by
 have e:C.flatMap f=(C.take i).flatMap f++(C.drop i).flatMap f:=by rw[← List.flatMap_append,List.take_append_drop]
 rw[e]at hn;have h2:=(List.nodup_append.1 hn).2.1;rw[List.drop_eq_getElem_cons (List.getElem?_eq_some_iff.1 h).1,(List.getElem?_eq_some_iff.1 h).2,List.flatMap_cons]at h2;exact (List.nodup_append.1 h2).1
theorem pg_nodup{M:Pm}{d n:Nat}(h:Tr M d n):(pg M d n).Nodup:=by
 rw[List.nodup_iff_count];intro q;rw[h.cnt];exact us_le M q
theorem kys_pos{M:Pm}:∀ (d n:Nat),Wf M d n→0<kys M d n
 | 0,n,h=>by
  obtain⟨y,hy,hne,_,hw⟩:=h;have g:=(hw.2.lv hw.1).1;rw[kys_leaf hy g,g];exact List.length_pos_iff.2 hne
 | d+1,n,h=>by
  obtain⟨y,hy,hne,_,hw⟩:=h;have g:=(hw.2.1.li hw.1).1;rw[kys_inner hy g];obtain⟨c,hc⟩:∃ c,y.is[0]? = some c:=⟨_,List.getElem?_eq_getElem (by omega)⟩;have h1:=kys_pos d c.toNat (hw.2.2 c (List.mem_of_getElem? hc));have h2:=flat_le (f:=fun c=>con (fm M d c.toNat)) (C:=y.is) 1;rw[flat_more hc]at h2;rw[List.length_append]at h2;unfold kys at h1;omega
end Go.Proofs.YtafgecaeiodmiaaGreatDoor.T