/- YtnmhcgpnhlhcgaaGreatDoorGz: of the texts Z0 what is wanted. -/
import Derived.Test.YtnmhcgpnhlhcgaaGreatDoorG0
import Derived.Test.YtnmhcgpnhlhcgaaGreatDoorRows
import Derived.WalkKit
import Derived.RowKit3
import Derived.Maps.OwnSet
set_option maxHeartbeats 16000000
set_option maxRecDepth 100000
set_option linter.unusedVariables false
set_option linter.unusedSimpArgs false
namespace Go.Proofs.YtnmhcgpnhlhcgaaGreatDoor
open Go.RowKit
open Go.Maps (Keyed)
theorem keyInt:Keyed Tryz.prog 3:=Go.Maps.int_keyed Tryz.underlying3
def IsM (w:World) (mb:Nat) (f:Int→Option Int) (s:Nat):Prop:=
 ∃D:DataW Unit,w.ownsMap Tryz.prog 3 (plainElem Tryz.prog 3) mb s D∧(∀i,Maps.has D (.int .i64 i)=(f i).isSome)∧(∀i c,f i=some c→D.atKey (.int .i64 i) (.lit (.int .i64 0))= .lit (.int .i64 c))∧Maps.size D=s
def setF (f:Int→Option Int) (i:Int) (o:Option Int):Int→Option Int:=fun j=>if j=i then o else f j
section
variable {w w':World} {mb s:Nat} {f:Int→Option Int}
theorem IsM.made (w:World):IsM (w.alloc (.map #[] 0)) w.heap.size (fun _=>none) 0:=
 ⟨.map [],World.ownsMap_made w _ _ _,fun _=>rfl,fun i c h=>(by cases h),rfl⟩
theorem IsM.lt (h:IsM w mb f s):mb<w.heap.size:=by obtain⟨D,h,_⟩:=h;exact h.lt
theorem IsM.block (h:IsM w mb f s) (hb:w'.heap[mb]? =w.heap[mb]?):IsM w' mb f s:=by
 obtain⟨D,⟨es,clock,h0,h1⟩,h2⟩:=h
 exact⟨D,⟨es,clock,by rw[hb];exact h0,h1⟩,h2⟩
theorem zeroInt (w:World):(zeroValue 3).run Tryz.prog w= .ok (vI6 0) w:=by rfl
theorem keyI (i:Int) (hi:(Lit.int .i64 i).wf=true):keyOf Tryz.prog 3 (.int .i64 i)=some (.int .i64 i):=Go.Maps.keyOf_int_mk (by simp) hi
theorem IsM.look (h:IsM w mb f s) (i:Int) (hi:(Lit.int .i64 i).wf=true):
  (Instr.lookup 165 (.map (some mb)) (.int .i64 i) true).run Tryz.prog w= .ok (.tuple #[.int .i64 ((f i).getD 0),.bool (f i).isSome]) w:=by
 obtain⟨D,h1,h2,h3,_⟩:=h
 obtain⟨v,ps,hr,hv⟩:=h1.look_ok keyInt (t:=165) (e:=3) (by simp) (zeroInt w) (plainElem_int (by simp) (by decide)) (keyI i hi)
 rw[hr,h2 i]
 obtain⟨c,rfl,hc,_⟩:=plainElem_int_inv Tryz.underlying3 hv
 have hc':=congrArg Prod.fst hc
 simp only at hc'
 cases hf:f i with
 |none=>
  grind[Maps.atKey_of_not_has]
 |some c'=>
  rw[h3 i c' hf] at hc'
  simp at hc'
  rw[←hc']
  rfl
theorem lit_ne {i j:Int} (h:i≠j):(Lit.int .i64 i)≠(Lit.int .i64 j):=fun e=>h (by grind)
theorem lit_key (i:Int):WideAt.IsKeyLit (Lit.int .i64 i):=trivial
theorem wpList_store_m {ops:Array Oper} {rest:List Oper} {o:Oper} {a:Act} {Q:Exit→Act→World→Prop} (hg:o.guard=none) (m x v:Operand) (hop:o.op=Op.mapUpdate 165 m x v)
  (h:IsM w mb f s) (hn:s<maxLen) (i c:Int) (hi:(Lit.int .i64 i).wf=true) (hc:(Lit.int .i64 c).wf=true) (hm:a.eval m= .map (some mb)) (hx:a.eval x= .int .i64 i) (hv:a.eval v= .int .i64 c)
  (hK: ∀w',IsM w' mb (setF f i (some c)) (if (f i).isSome then s else s+1)→w.grownBy w' (some mb)→wpList Tryz.prog ops Q rest (a.put o.dst undef) w'):
  wpList Tryz.prog ops Q (o::rest) a w:=by
 obtain⟨D,h1,h2,h3,h4⟩:=h
 refine wpList_mapUpdate_own w hg m x v 165 hop 3 3 keyInt (by simp) (plainElem Tryz.prog 3) mb s D hm h1 hn (.int .i64 i) (.int .i64 c) (.int .i64 i) hx hv (keyI i hi) (.lit (.int .i64 c)) [] (plainElem_int (by simp) hc) ?_
 intro w' q1 q2
 have hsz:Maps.size (D.put (.int .i64 i) (.lit (.int .i64 c)))=if (f i).isSome then s else s+1:=by rw[Maps.size_put (h1.tidy keyInt),h2 i,h4]
 refine hK w' ⟨_,tight q1 hsz,fun j=> ?_,fun j c' hj=> ?_,hsz⟩ q2
 ·unfold setF
  by_cases e:j=i
  ·subst e
   rw[if_pos rfl,Maps.has_put_same h1.isMap (lit_key _)]
   rfl
  ·rw[if_neg e,Maps.has_put_other (lit_ne e),h2 j]
 ·unfold setF at hj
  by_cases e:j=i
  ·subst e
   rw[if_pos rfl] at hj
   grind[Maps.atKey_put_same,World.ownsMap.isMap,lit_key]
  ·rw[if_neg e] at hj
   grind[Maps.atKey_put_other]
theorem wpList_delete_m {ops:Array Oper} {rest:List Oper} {o:Oper} {a:Act} {Q:Exit→Act→World→Prop} (hg:o.guard=none) (m x:Operand) (hop:o.op=Op.call {callee:=Callee.builtin Builtin.delete,args:= #[m,x],argTypes:= #[165,3]})
  (h:IsM w mb f s) (i:Int) (hi:(Lit.int .i64 i).wf=true) (hm:a.eval m= .map (some mb)) (hx:a.eval x= .int .i64 i)
  (hK: ∀w',IsM w' mb (setF f i none) (if (f i).isSome then s-1 else s)→w.grownBy w' (some mb)→wpList Tryz.prog ops Q rest (a.put o.dst (.tuple #[])) w'):
  wpList Tryz.prog ops Q (o::rest) a w:=by
 obtain⟨D,h1,h2,h3,h4⟩:=h
 refine wpList_delete_own w hg m x 165 3 hop 3 keyInt (by simp) (plainElem Tryz.prog 3) mb s D hm h1 (.int .i64 i) (.int .i64 i) hx (keyI i hi) ?_
 intro w' q1 q2
 have hsz:Maps.size (D.del (.int .i64 i))=if (f i).isSome then s-1 else s:=by
  grind[Maps.size_del,World.ownsMap.tidy,keyInt]
 refine hK w' ⟨_,tight q1 hsz,fun j=> ?_,fun j c' hj=> ?_,hsz⟩ (World.mapTurned.grown q2)
 ·unfold setF
  by_cases e:j=i
  ·subst e
   rw[if_pos rfl,Maps.has_del_same]
   rfl
  ·rw[if_neg e,Maps.has_del_other (lit_ne e),h2 j]
 ·unfold setF at hj
  by_cases e:j=i
  ·subst e
   rw[if_pos rfl] at hj
   cases hj
  ·rw[if_neg e] at hj
   grind[Maps.atKey_del_other]
theorem IsM.len (h:IsM w mb f s) (ty:TypeId):(Builtin.len_ #[165] ty #[.map (some mb)]).run Tryz.prog w= .ok (.int .i64 (s:Int)) w:=by
 obtain⟨D,h1,_,_,h4⟩:=h
 rw[h1.len Tryz.underlying165 ty,h4]
end
end Go.Proofs.YtnmhcgpnhlhcgaaGreatDoor
