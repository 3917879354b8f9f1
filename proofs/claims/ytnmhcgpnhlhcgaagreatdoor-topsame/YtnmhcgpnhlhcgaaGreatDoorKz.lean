/- YtnmhcgpnhlhcgaaGreatDoorKz: of the texts Z0 what is wanted. -/
import Derived.Test.YtnmhcgpnhlhcgaaGreatDoorK0
import Derived.Test.YtnmhcgpnhlhcgaaGreatDoorRows
import Derived.WalkKit
import Derived.RowKit3
import Derived.Maps.OwnSet
set_option maxHeartbeats 16000000
set_option maxRecDepth 100000
set_option linter.unusedVariables false
set_option linter.defProp false
set_option linter.unusedSimpArgs false
namespace Go.Proofs.YtnmhcgpnhlhcgaaGreatDoor
open Go.RowKit
open Go.Maps (Keyed)
theorem qP:Keyed Tryz.prog 3:=Go.Maps.int_keyed Tryz.underlying3
def bU (w:World) (a:Nat) (f:Int->Option Int) (s:Nat):Prop:=
 ∃D:DataW Unit,w.ownsMap Tryz.prog 3 (plainElem Tryz.prog 3) a s D/\(∀i,Maps.has D (.int .i64 i)=(f i).isSome)/\(∀i c,f i=some c->D.atKey (.int .i64 i) (.lit (.int .i64 0))= .lit (.int .i64 c))/\Maps.size D=s
def dJ (f:Int->Option Int) (i:Int) (o:Option Int):Int->Option Int:=fun j=>if j=i then o else f j
section
variable {w w':World} {b s:Nat} {f:Int->Option Int}
def bU.made (w:World):bU (w.alloc (.map #[] 0)) w.heap.size (fun _=>none) 0:=
 ⟨.map [],World.ownsMap_made w _ _ _,fun _=>rfl,fun i c h=>(by cases h),rfl⟩
theorem bU.lt (h:bU w b f s):b<w.heap.size:=by obtain⟨D,h,_⟩:=h;exact h.lt
theorem bU.block (h:bU w b f s) (c:w'.heap[b]? =w.heap[b]?):bU w' b f s:=by
 obtain⟨D,⟨i,a,g,e⟩,d⟩:=h
 exact⟨D,⟨i,a,by rw[c];exact g,e⟩,d⟩
theorem Jm (w:World):(zeroValue 3).run Tryz.prog w= .ok (ab 0) w:=by rfl
def yy (i:Int) (hi:(Lit.int .i64 i).wf=true):keyOf Tryz.prog 3 (.int .i64 i)=some (.int .i64 i):=Go.Maps.keyOf_int_mk q_ hi
def bU.look (h:bU w b f s) (i:Int) (hi:(Lit.int .i64 i).wf=true):
  (Instr.lookup 165 (.map (some b)) (.int .i64 i) true).run Tryz.prog w= .ok (.tuple #[.int .i64 ((f i).getD 0),.bool (f i).isSome]) w:=by
 obtain⟨D,n,m,l,_⟩:=h
 obtain⟨v,p,g,d⟩:=n.look_ok qP (t:=165) (e:=3) q_ (Jm w) (plainElem_int q_ x_) (yy i hi)
 rw[g,m i]
 obtain⟨c,rfl,k,_⟩:=plainElem_int_inv Tryz.underlying3 d
 have a:=congrArg Prod.fst k
 simp only at a
 cases j:f i with
 |none=>
  grind[Maps.atKey_of_not_has]
 |some o=>
  rw[l i o j] at a
  simp at a
  rw[<-a]
  rfl
def nK {i j:Int} (h:i≠j):(Lit.int .i64 i)≠(Lit.int .i64 j):=fun e=>h y_
theorem kD (i:Int):WideAt.IsKeyLit (Lit.int .i64 i):=trivial
def jX {g:Array Oper} {d:List Oper} {o:Oper} {a:Act} {Q:Exit->Act->World->Prop} (B:o.guard=none) (m x v:Operand) (l:o.op=Op.mapUpdate 165 m x v)
  (h:bU w b f s) (z:s<maxLen) (i c:Int) (hi:(Lit.int .i64 i).wf=true) (C:(Lit.int .i64 c).wf=true) (A:a.eval m= .map (some b)) (u:a.eval x= .int .i64 i) (y:a.eval v= .int .i64 c)
  (E: ∀w',bU w' b (dJ f i (some c)) (if (f i).isSome then s else s+1)->w.grownBy w' (some b)->wpList Tryz.prog g Q d (a.put o.dst undef) w'):
  wpList Tryz.prog g Q (o::d) a w:=by
 obtain⟨D,p,q,G,F⟩:=h
 refine wpList_mapUpdate_own w B m x v 165 l 3 3 qP q_ (plainElem Tryz.prog 3) b s D A p z (.int .i64 i) (.int .i64 c) (.int .i64 i) u y (yy i hi) (.lit (.int .i64 c)) [] (plainElem_int q_ C) ?_
 intro w' t r
 have k:Maps.size (D.put (.int .i64 i) (.lit (.int .i64 c)))=if (f i).isSome then s else s+1:=by rw[Maps.size_put (p.tidy qP),q i,F]
 refine E w' ⟨_,tight t k,fun j=> ?_,fun j H n=> ?_,k⟩ r
 ·unfold dJ
  by_cases e:j=i
  ·subst e
   rw[if_pos rfl,Maps.has_put_same p.isMap (kD _)]
   rfl
  ·rw[if_neg e,Maps.has_put_other (nK e),q j]
 ·unfold dJ at n
  by_cases e:j=i
  ·subst e
   rw[if_pos rfl] at n
   grind[Maps.atKey_put_same,World.ownsMap.isMap,kD]
  ·rw[if_neg e] at n
   grind[Maps.atKey_put_other]
def dw {d:Array Oper} {c:List Oper} {o:Oper} {a:Act} {Q:Exit->Act->World->Prop} (t:o.guard=none) (m x:Operand) (l:o.op=Op.call {callee:=Callee.builtin Builtin.delete,args:= #[m,x],argTypes:= #[165,3]})
  (h:bU w b f s) (i:Int) (hi:(Lit.int .i64 i).wf=true) (r:a.eval m= .map (some b)) (q:a.eval x= .int .i64 i)
  (u: ∀w',bU w' b (dJ f i none) (if (f i).isSome then s-1 else s)->w.grownBy w' (some b)->wpList Tryz.prog d Q c (a.put o.dst (.tuple #[])) w'):
  wpList Tryz.prog d Q (o::c) a w:=by
 obtain⟨D,y,v,A,z⟩:=h
 refine wpList_delete_own w t m x 165 3 l 3 qP q_ (plainElem Tryz.prog 3) b s D r y (.int .i64 i) (.int .i64 i) q (yy i hi) ?_
 intro w' p n
 have g:Maps.size (D.del (.int .i64 i))=if (f i).isSome then s-1 else s:=by
  grind[Maps.size_del,World.ownsMap.tidy,qP]
 refine u w' ⟨_,tight p g,fun j=> ?_,fun j B k=> ?_,g⟩ (World.mapTurned.grown n)
 ·unfold dJ
  by_cases e:j=i
  ·subst e
   rw[if_pos rfl,Maps.has_del_same]
   rfl
  ·rw[if_neg e,Maps.has_del_other (nK e),v j]
 ·unfold dJ at k
  by_cases e:j=i
  ·subst e
   rw[if_pos rfl] at k
   cases k
  ·rw[if_neg e] at k
   grind[Maps.atKey_del_other]
theorem bU.len (h:bU w b f s) (a:TypeId):(Builtin.len_ #[165] a #[.map (some b)]).run Tryz.prog w= .ok (.int .i64 s) w:=by
 obtain⟨D,d,_,_,c⟩:=h
 rw[d.len Tryz.underlying165 a,c]
end
end Go.Proofs.YtnmhcgpnhlhcgaaGreatDoor
