/- YtnmhcgpnhlhcgaaGreatDoorKn: of the texts Bh1 Bi3 Bn1 Bn2 Bn3 Bn4 Bp1 Bp2 what is wanted. -/
import Derived.Test.YtnmhcgpnhlhcgaaGreatDoorK0
import Derived.Test.YtnmhcgpnhlhcgaaGreatDoorKs
import Derived.Deep.Slices
import Derived.ChangeOld
import Derived.OpenShut
import Derived.Test.YtnmhcgpnhlhcgaaGreatDoorKt
import Derived.Test.YtnmhcgpnhlhcgaaGreatDoorKq
import Derived.Test.YtnmhcgpnhlhcgaaGreatDoorKx
import Derived.Test.YtnmhcgpnhlhcgaaGreatDoorKd
import Derived.Test.YtnmhcgpnhlhcgaaGreatDoorKa
import Derived.Laws.AppendOwnNone
set_option maxHeartbeats 16000000
set_option maxRecDepth 100000
set_option linter.unusedVariables false
set_option linter.defProp false
set_option linter.unusedSimpArgs false
namespace Go.Proofs.YtnmhcgpnhlhcgaaGreatDoor
open Go.RowKit Go.Lib Go.Shelf
attribute [local go_sem ↓] Go.wp_at_zero Go.wp_at_succ
section
variable {w V:World} {a:Ad} {P n q T T' b p j c tk:Nat} {M M':Mc} {K:Nat->Prop}
def nQ.AK (h:nQ w V a P n q T M K) {f:Nat} {i:Array Value} {R:Ending->World->Prop} (x: ∀g,ax V g a P n q T M->aB f i V fun e l=>R e l/\aD V l g a P n q T' M'):
  aB f i V fun e l=>R e l/\nQ w l a P n q T' M' K/\ ∀k,K k->l.heap[k]? =V.heap[k]? :=by
 obtain⟨⟨g,hi,y,r⟩,t⟩:=h
 refine(x g hi).mono ?_
 rintro e l ⟨v,o,s,u,m⟩
 refine⟨v,⟨⟨o,s,fun k d=> ?_,fun k d=>⟨(u.old k (r k d).2).trans (r k d).1,i8 (r k d).2 m.size⟩⟩,t.trans ⟨m.os,m.tape,m.output,m.size,fun k d=>m.block k (i8 d t.size) (fun q=>by grind)⟩⟩,fun k d=>m.block k (r k d).2 (fun q=>q (r k d).1)⟩
 rcases Nat.lt_or_ge k V.heap.size with q|q
 ·exact y k (by rw[<-u.old k q];exact d)
 ·exact zY0 t.size q
theorem nQ.one (h:nQ w V a P n q T M K): ∃d,ax V d a P n q T M:=by
 obtain⟨⟨d,hi,_⟩,_⟩:=h
 exact⟨d,hi⟩
end
end Go.Proofs.YtnmhcgpnhlhcgaaGreatDoor
namespace Go.Proofs.YtnmhcgpnhlhcgaaGreatDoor
open Go.RowKit Go.Lib Go.Shelf
section
variable {P n q m b a:Nat}
def LH (s:Ru) (x:Ex.En):(jB P n q s x).er.length=s.er.length+1:=by
 unfold jB
 grind
def Bb: ∀(L:List Ex.En) (s:Ru),(L.foldl (jB P n q) s).er.length=s.er.length+L.length
 |[],_=>rfl
 |x::L,s=>by
  have h:=Bb L (jB P n q s x)
  rw[LH] at h
  simp only[List.foldl_cons,List.length_cons]
  omega
def LV (L:List Ex.En):(Hg P n q m b a L).er.length=L.length:=by
 have:=Bb (P:=P) (n:=n) (q:=q) L ⟨gz P n m b a,[],[],0,0⟩
 simpa [Hg] using this
end
def Qs {x:Nat} (h:x<9223372036854775808):IntKind.i64.wrap (x:Int)=x:=by simp[IntKind.wrap,IntKind.bits,IntKind.signed];omega
def Src (w:World) (v:Value) (a:List Nat):Prop:=(v= .slice none 0 0/\a=[])\/ ∃b c,v= .slice (some b) a.length c/\ ∀(j:Nat) (u:Value),(Ex.dG a)[j]? =some u->w.cell? (b.add j)=some u
section
variable {H:Type} {enc:TypeId×Value->H} {w:World} {b:Nat} {a:Nat->Bool} {c:Bool}
open Go.Deep Go.ChangeShapes Go.WideShapes in
end
end Go.Proofs.YtnmhcgpnhlhcgaaGreatDoor
