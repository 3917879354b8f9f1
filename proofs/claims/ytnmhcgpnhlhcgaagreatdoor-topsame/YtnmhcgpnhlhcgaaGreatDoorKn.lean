/- YtnmhcgpnhlhcgaaGreatDoorKn: of the texts Bh1 Bi3 Bn1 Bn2 Bn3 Bn4 Bp1 Bp2 what is wanted. -/
import Derived.Test.YtnmhcgpnhlhcgaaGreatDoorK0
import Derived.Test.YtnmhcgpnhlhcgaaGreatDoorKs
import Derived.Deep.Slices
import Derived.ChangeOld
import Derived.OpenShut
import Derived.Test.YtnmhcgpnhlhcgaaGreatDoorKt
import Derived.Test.YtnmhcgpnhlhcgaaGreatDoorKq
import Derived.Test.YtnmhcgpnhlhcgaaGreatDoorKx
import Derived.Test.YtnmhcgpnhlhcgaaGreatDoorKd
import Derived.Test.YtnmhcgpnhlhcgaaGreatDoorKa
import Derived.Laws.AppendOwnNone
set_option maxHeartbeats 16000000
set_option maxRecDepth 100000
set_option linter.unusedVariables false
set_option linter.defProp false
set_option linter.unusedSimpArgs false
namespace Go.Proofs.YtnmhcgpnhlhcgaaGreatDoor
open Go.RowKit Go.Lib Go.Shelf
attribute [local go_sem ↓] Go.wp_at_zero Go.wp_at_succ
section
variable {w V:World} {a:Ad} {P n q T T' b p j c tk:Nat} {M M':Mc} {K:Nat->Prop}
def nQ.AK (h:nQ w V a P n q T M K) {f:Nat} {i:Array Value} {R:Ending->World->Prop} (x: ∀g,ax V g a P n q T M->aB f i V fun e l=>R e l/\aD V l g a P n q T' M'):
  aB f i V fun e l=>R e l/\nQ w l a P n q T' M' K/\ ∀k,K k->l.heap[k]? =V.heap[k]? :=by
 obtain⟨⟨g,hi,y,r⟩,t⟩:=h
 refine(x g hi).mono ?_
 rintro e l ⟨v,o,s,u,m⟩
 refine⟨v,⟨⟨o,s,fun k d=> ?_,fun k d=>⟨(u.old k (r k d).2).trans (r k d).1,i8 (r k d).2 m.size⟩⟩,t.trans ⟨m.os,m.tape,m.output,m.size,fun k d=>m.block k (i8 d t.size) (fun q=>by grind)⟩⟩,fun k d=>m.block k (r k d).2 (fun q=>q (r k d).1)⟩
 rcases Nat.lt_or_ge k V.heap.size with q|q
 ·exact y k (by rw[<-u.old k q];exact d)
 ·exact zY0 t.size q
theorem nQ.one (h:nQ w V a P n q T M K): ∃d,ax V d a P n q T M:=by
 obtain⟨⟨d,hi,_⟩,_⟩:=h
 exact⟨d,hi⟩
end
end Go.Proofs.YtnmhcgpnhlhcgaaGreatDoor
namespace Go.Proofs.YtnmhcgpnhlhcgaaGreatDoor
open Go.RowKit Go.Lib Go.Shelf
def Lc:List Ex.En:=[Ex.cK [(9,0)],Ex.bV 0 0 (-1)]
section
variable {P n q m b a:Nat}
def Bf (s:Mc×List Ev×Nat×Nat): ∀j,s.2.1.length<=(cF P n q s j).2.1.length
 |0=>aT
 |j+1=>by
  have:=Bf s j
  simp only[cF,List.length_append]
  omega
def Nq (s:Ru) (x:Ex.En):s.ev.length<=(jB P n q s x).ev.length:=by
 unfold jB
 split
 ·simp
 split
 ·exact Bf (s.M,s.ev,s.us,s.wh) _
 split
 ·exact aT
 split
 ·exact aT
 ·simp
def Aj: ∀(L:List Ex.En) (s:Ru),s.ev.length<=(L.foldl (jB P n q) s).ev.length
 |[],_=>aT
 |x::L,s=>zY0 (Nq s x) (Aj L _)
def LH (s:Ru) (x:Ex.En):(jB P n q s x).er.length=s.er.length+1:=by
 unfold jB
 grind
def Bb: ∀(L:List Ex.En) (s:Ru),(L.foldl (jB P n q) s).er.length=s.er.length+L.length
 |[],_=>rfl
 |x::L,s=>by
  have h:=Bb L (jB P n q s x)
  rw[LH] at h
  simp only[List.foldl_cons,List.length_cons]
  omega
def LV (L:List Ex.En):(Hg P n q m b a L).er.length=L.length:=by
 have:=Bb (P:=P) (n:=n) (q:=q) L ⟨gz P n m b a,[],[],0,0⟩
 simpa [Hg] using this
end
def K1:Ex.uK [(9,0)]:=⟨0,.inr (.inr (.inr ⟨x_,x_,fun i hi=>by
 obtain rfl:i=0:=by simpa using hi
 decide,.inr rfl,rfl,rfl⟩))⟩
def sD:Ex.gu Lc:=fun x a=>by
 simp only[Lc,List.mem_cons,List.not_mem_nil,or_false] at a
 rcases a with rfl|rfl
 ·exact⟨.inr (.inr (.inl ⟨rfl,K1⟩)),⟨x_,x_,x_,x_⟩⟩
 ·exact⟨.inr (.inr (.inr (.inr ⟨rfl,x_,x_,x_,x_⟩))),⟨x_,x_,x_,x_⟩⟩
def OM (L:List Ex.En):1<=(Hg 1 1 1 0 9 9 (Lc++L)).ev.length:=by
 unfold Hg
 rw[List.foldl_append]
 refine zY0 ?_ (Aj L _)
 have a:lM (gz 1 1 0 9 9) ⟨1,Ex.cO [(9,0)],Ex.cR [(9,0)]⟩={gz 1 1 0 9 9 with pr:=[⟨1,Ex.cO [(9,0)],Ex.cR [(9,0)]⟩]}:=if_pos ⟨K1,x_⟩
 show 1<=([]++gL (lM (gz 1 1 0 9 9) ⟨1,Ex.cO [(9,0)],Ex.cR [(9,0)]⟩) 1 0 (-1)).length
 rw[a]
 exact aT
def Af: ∀(A L:List Ex.En) (r:List Nat),Ex.gu A->Ex.gu L->Ex.all L=Ex.all A++r-> ∃K,L=A++K
 |[],L,_,_,_,_=>⟨L,rfl⟩
 |x::A,[],r,_,_,h=>by
  have:=congrArg List.length h
  have:= @Ex.j5 x
  simp only[Ex.all_cons,Ex.all_nil,List.length_append,List.length_nil] at*
  omega
 |x::A,y::L,r,b,a,h=>by
  rw[Ex.all_cons,Ex.all_cons,List.append_assoc] at h
  obtain⟨rfl,c⟩:=Ex.kG (a y q_).1 (a y q_).2 (b x q_).1 (b x q_).2 h
  obtain⟨K,rfl⟩:=Af A L r (fun z hz=>b z (by simp[hz])) (fun z hz=>a z (by simp[hz])) c
  exact⟨K,rfl⟩
def A8 {x:Ex.En} (h:Ex.bj x):0<=x.n/\x.n<=65535:=by
 rcases h with ⟨e,_⟩|⟨e,h⟩|⟨e,_⟩|e|⟨e,_⟩
 ·rw[e];simp[Ex.dB]
 ·omega
 ·rw[e];simp[Ex.cK]
 ·rw[e];simp[Ex.cT]
 ·rw[e];simp[Ex.bV]
def Bm: ∀L:List Ex.En,L.length<=(Ex.all L).length
 |[]=>aT
 |x::L=>by
  have:=Bm L
  have:= @Ex.j5 x
  simp only[Ex.all_cons,List.length_append,List.length_cons]
  omega
def rT: ∀{L:List Ex.En},Ex.gu L->wX L<=65535*L.length
 |[],_=>aT
 |x::L,h=>by
  have b:=rT (L:=L) (fun z hz=>h z (by simp[hz]))
  have a:=(A8 (h x q_).1).2
  simp only[wX,List.map_cons,List.sum_cons,List.length_cons] at*
  omega
def H5 {L:List Ex.En} {d:List Nat} {w:World} {c:Value} (i:L.length<=1000) (n:wX L<=1000) (l:Gt.pv w) (o: ∀V,aC w V->aB 32 #[c] V (Ex.nR V 86 d)) (g:Ex.Good d L):
  aB 25 #[.agg #[ab 1,ab 1,ab 1,ab 0,aj 9,aj 9],c] w fun e w'=> ∃a b u f,e=aS #[.agg (B6 a b u f),ab 0]/\fK w' w.heap.size a (Hg 1 1 1 0 9 9 L).ev/\KG w' w.heap.size b (Hg 1 1 1 0 9 9 L).er/\aC w w':=by
 refine(L5 1 1 1 0 9 9 x_ x_ x_ x_ x_ x_ w l c L i (fun V q=>(o V q).mono fun e w' h=>h.tu g) _ ⟨rfl,Nat.zero_le _,(Iv.new 1 1 0 9 9 x_ x_),aT,x_,aT,rfl⟩ (CR (m:=0) (qu:=9) (ag:=9) x_ x_ L i n g.1)).mono ?_
 rintro e w' ⟨a,b,f,T,M,t,k,x,v,j,rfl,_,s,r,p⟩
 rw[List.take_length] at j
 rw[j.e]
 exact⟨_,_,_,_,rfl,s,r,p⟩
def Qs {x:Nat} (h:x<9223372036854775808):IntKind.i64.wrap (x:Int)=x:=by simp[IntKind.wrap,IntKind.bits,IntKind.signed];omega
def Hv {b:List Nat} {w:World} {a:Nat} {v:Value} (h:w.ownsRow a 5 1 v b.length (Ex.dG b)) (c: ∀y∈b,y<256) (d:b.length<100000):(∃L,Ex.Good b L)\/ ∃L,Ex.nU b L:=by
 obtain⟨_,_,e⟩:=lp (Ex.zS w a v b h c d)
 exact e.either
def P6 (b:Nat):Array Value:= #[ab 3,ab 0,aj 0,ab 0,.slice (some (ao b)) 1 1,aj 0,aj 0,ab 0,aA 0,ab 0,ab 5,ab 0,aj 0,ab 0,.slice none 0 0,aj 0,aj 0,ab 0,aA 0,ab (-1)]
def Mw {w:World} {b k:Nat} {t l:TypeId} (h:w.heap[b]? =some (.cells #[ab 9,ab 0] t (0,0))) (g:w.heap[k]? =some (.cells (P6 b) l (0,0))):Ex.M8 w (some (ao k)) Lc:=by
 have o:=(zW0.1 h).1
 have f: ∀(j:Nat) (u:Value),(#[ab 9,ab 0]:Array Value)[j]? =some u->w.cell? (af b j)=some u:=fun j u c=>by
  unfold World.cell?
  rw[h]
  exact c
 have a: ∀(j:Nat) (u:Value),(P6 b)[j]? =some u->w.cell? (af k j)=some u:=fun j u c=>by
  unfold World.cell?
  rw[g]
  exact c
 refine .inr ⟨k,0,rfl,(zW0.1 g).1,fun j x e=> ?_⟩
 have m:=(i6.1 e).1
 have d:j<2:=m
 match j,d with
 |0,_=>
  obtain rfl:Ex.cK [(9,0)]=x:=by simpa [Lc] using e
  refine⟨some (ao b),1,a 0 _ rfl,a 1 _ rfl,a 2 _ rfl,a 3 _ rfl,a 4 _ rfl,a 5 _ rfl,a 6 _ rfl,a 7 _ rfl,a 8 _ rfl,a 9 _ rfl,.inr ⟨b,0,rfl,o,fun i hi=> ?_⟩,x_,.inl x_,(sD _ (by simp[Lc])).2⟩
  have n:i<1:=hi
  obtain rfl:i=0:=z_
  exact⟨f 0 _ rfl,f 1 _ rfl⟩
 |1,_=>
  obtain rfl:Ex.bV 0 0 (-1)=x:=by simpa [Lc] using e
  exact⟨none,0,a 10 _ rfl,a 11 _ rfl,a 12 _ rfl,a 13 _ rfl,a 14 _ rfl,a 15 _ rfl,a 16 _ rfl,a 17 _ rfl,a 18 _ rfl,a 19 _ rfl,Ex.lY _ _,x_,.inl x_,(sD _ (by simp[Lc])).2⟩
def Src (w:World) (v:Value) (a:List Nat):Prop:=(v= .slice none 0 0/\a=[])\/ ∃b c,v= .slice (some b) a.length c/\ ∀(j:Nat) (u:Value),(Ex.dG a)[j]? =some u->w.cell? (b.add j)=some u
def uD (b:List Nat): ∀u∈Ex.dG b,u.oneCell'=true:=by
 intro u a
 simp only[Ex.dG,List.mem_map] at a
 obtain⟨y,_,rfl⟩:=a
 rfl
def IP {w:World} {a:Nat} {v:Value} {ys:List Nat} (h:w.ownsRow a 5 1 v ys.length (Ex.dG ys)):Src w v ys:=by
 have d:=h
 rcases h.2 with ⟨rfl,e⟩|⟨g,i,f,rfl,_⟩
 ·exact .inl ⟨rfl,List.eq_nil_of_length_eq_zero e⟩
 ·refine .inr ⟨_,_,rfl,fun j u b=> ?_⟩
  have c:=(i6.1 b).1
  have e:(ao g:Addr).add j=af g j:=by unfold Addr.add;grind
  rw[e,d.cellAt j (by simpa [Ex.dG] using c)]
  exact b
def Ks {w:World} {a:Option Addr} {len b:Nat} {X:Nat->Nat} (h:Ex.Ki w a len X) (d:a=none->len=0/\b=0):Src w (.slice a len b) ((List.range len).map X):=by
 cases a with
 |none=>
  obtain⟨rfl,rfl⟩:=d rfl
  exact .inl ⟨rfl,rfl⟩
 |some f=>
  refine .inr ⟨f,b,q_,fun j u c=> ?_⟩
  have e:Ex.dG ((List.range len).map X)=Ex.byteCells X len:=by simp[Ex.dG,Ex.byteCells]
  rw[e] at c
  exact Ex.Ea h cj j u c
def L9 {P:Program} {w:World} {m:Array Oper} {g:List Oper} {o:Oper} {a:Act} {Q:Exit->Act->World->Prop} (i:TypeInfo) (p:o.guard=none) (s x:Operand) (t:TypeId)
  (z:o.op= .call {callee:= .builtin .append,args:= #[s,x],argTypes:= #[t,t]}) (u:P.underlying t=some (.slice 5)) (hi:P.info? 5=some i) (hz:i.zero=some (aA 0)) (E:i.size=1) (D:i.bytes=1)
  (b:Nat) (v:Value) (d ys:List Nat) (y:a.eval s=v) (f:w.ownsRow b 5 1 v d.length (Ex.dG d)) (l:Value) (r:a.eval x=l) (n:Src w l ys) (G:d.length+ys.length<=100000) (j:b<=w.heap.size)
  (h: ∀q k,k.ownsRow b 5 1 q (d++ys).length (Ex.dG (d++ys))->w.grownBy k v.ownBlock->wpList P m Q g (a.put o.dst q) k):wpList P m Q (o::g) a w:=by
 rcases n with ⟨rfl,rfl⟩|⟨F,c,rfl,C⟩
 ·refine wpList_append_own_none p s x t z b 5 i 1 u hi v d.length (Ex.dG d) y f r (h v w (by simpa using f) ?_)
  exact World.grownBy.refl _ _
 ·refine wpList_append_own w p s x t z b 5 i (aA 0) 1 1 u hi hz E D rfl x_ v d.length (Ex.dG d) y f F ys.length c (Ex.dG ys) r (by simp[Ex.dG]) C (uD ys) (by unfold maxLen;omega) z_ j fun q k B A _=>h q k ?_ A
  have e:Ex.dG (d++ys)=Ex.dG d++Ex.dG ys:=by simp[Ex.dG]
  rw[e,List.length_append]
  exact B
section
variable {H:Type} {enc:TypeId×Value->H} {w:World} {b:Nat} {a:Nat->Bool} {c:Bool}
open Go.Deep Go.ChangeShapes Go.WideShapes in
def Dm {j:Nat} {d:Option Addr} {f g:Nat} {x:DataW H×List MemPlace}
  (h:DataW.trod enc Tryz.prog w b a c j 51 (Value.slice d f g).cells.toList=some x):f<9223372036854775808/\f<=g/\g<9223372036854775808/\(d=none->f=0/\g=0)/\ ∃D,Qj w d f D:=by
 obtain⟨r,q,p,o⟩:=Gu h
 refine⟨r,q,p,fun e=> ?_,o⟩
 subst e
 rcases open_slice Tryz.underlying51 h with ⟨i,_⟩|⟨s,k,l,m,n,D,Pl,i,_⟩
 ·simp[Value.cells] at i
  omega
 ·simp[Value.cells] at i
end
end Go.Proofs.YtnmhcgpnhlhcgaaGreatDoor
