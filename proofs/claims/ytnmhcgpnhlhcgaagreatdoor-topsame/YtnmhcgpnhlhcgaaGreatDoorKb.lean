/- YtnmhcgpnhlhcgaaGreatDoorKb: of the texts Mp Mh X0 X1 X2 X3 X4 X5 X6 Mi Me Y1 Y2 Y3 Y4 Y5 Y6 Y8 Y9 Y10 Y12 Y13 Y14 what is wanted. -/
import Derived.Test.YtnmhcgpnhlhcgaaGreatDoorK0
import Derived.Test.YtnmhcgpnhlhcgaaGreatDoorRows
import Derived.WalkKit
import Derived.Below
import Derived.WalkSpells
import Derived.WalkLawsBesides
import Derived.StillTactics
import Derived.RegionTactic
import Derived.RowKit3
import Derived.Laws.MakeOwn
import Derived.OwnWalk
import Derived.Deep.QuietTactic
import Derived.BigQuiet
import Derived.Deep.RegionHeld3
import Derived.Deep.DrawnRows
import Derived.Lib.SmallJoins
import Derived.WalkMore
import Derived.Test.YtnmhcgpnhlhcgaaGreatDoorKa
import Derived.Laws.OwnMore
import Derived.Maps.AppendAt
import Derived.Deep.AppendLies
import Derived.OneCell
import Derived.Deep.MidRow
import Derived.RangeFuncNested
import Derived.RangeFuncBound
import Derived.RangeFuncCalls
import Derived.RangeFuncLeaves
import Derived.RangeFuncBox
import Derived.Shelf.Abstract
import Derived.Shelf.RegionOpen
import Derived.OwnWalkIn
import Derived.TacticsInMore
import Derived.LoopNIn
import Derived.LoopIn
set_option maxHeartbeats 16000000
set_option maxRecDepth 100000
set_option linter.unusedVariables false
set_option linter.defProp false
set_option linter.unusedSimpArgs false
namespace Go.Proofs.YtnmhcgpnhlhcgaaGreatDoor.Ph
open Go.RowKit
theorem aU (w:World) (a:Addr) (x u:Value) (h:w.cell? a=some u):(w.setCell a x).cell? a=some x:=World.cell?_setCell_same _ _ _ h
theorem aw (w:World) (b o c a:Nat) (x:Value) (h: ¬(b=c/\o=a)):(w.setCell (af b o) x).cell? (af c a)=w.cell? (af c a):=
 World.cell?_setCell_other _ _ _ _ y_
structure aH (w:World) (b g n rt ct:Nat) (D S I C A B:Nat->Nat) (T:Nat->Bool):Prop where
 bg:b≠g
 sl: ∃cp,w.cell? (ao b)=some (.slice (some (ao g)) (n+1) cp)
 rt:w.cell? (af b 1)=some (ab rt)
 ct:w.cell? (af b 2)=some (ab ct)
 nd: ∀x,x<=n->w.cell? (af g (x*7))=some (aj ((D x:Nat):Int))
 ns: ∀x,x<=n->w.cell? (af g (x*7+1))=some (aj ((S x:Nat):Int))
 ni: ∀x,x<=n->w.cell? (af g (x*7+2))=some (ab ((I x:Nat):Int))
 nc: ∀x,x<=n->w.cell? (af g (x*7+3))=some (ab ((C x:Nat):Int))
 na: ∀x,x<=n->w.cell? (af g (x*7+4))=some (ab ((A x:Nat):Int))
 nb: ∀x,x<=n->w.cell? (af g (x*7+5))=some (ab ((B x:Nat):Int))
 nt: ∀x,x<=n->w.cell? (af g (x*7+6))=some (.bool (T x))
 fb: ∀o,w.frozen? (af b o)=false
 fg: ∀o,w.frozen? (af g o)=false
section
variable {w:World} {b g n a c:Nat} {D S I C A B:Nat->Nat} {T:Nat->Bool}
def aH.cG (h:aH w b g n a c D S I C A B T):b<w.heap.size:=i7 w (af b 1) h.rt
def aH.dO (h:aH w b g n a c D S I C A B T):g<w.heap.size:=i7 w (af g (0*7)) (h.nd 0 (Nat.zero_le _))
theorem aH.kept {w':World} (h:aH w b g n a c D S I C A B T) (e:w'.heap[b]? =w.heap[b]?) (d:w'.heap[g]? =w.heap[g]?):aH w' b g n a c D S I C A B T:=by
 have:=LX e
 have:=LX d
 exact mK
def aH.dc {w':World} (h:aH w b g n a c D S I C A B T) (e:w'.heap=w.heap):aH w' b g n a c D S I C A B T:=h.kept (by rw[e]) (by rw[e])
def aH.drew (h:aH w b g n a c D S I C A B T):aH w.drew b g n a c D S I C A B T:=h.dc rfl
def aH.drewN (h:aH w b g n a c D S I C A B T) (q:Nat):aH (w.drewN q) b g n a c D S I C A B T:=h.dc rfl
def aH.below (h:aH w b g n a c D S I C A B T) {w':World} (hw:aC w w'):aH w' b g n a c D S I C A B T:=h.kept (hw.block b h.cG) (hw.block g h.dO)
def aH.alloc (h:aH w b g n a c D S I C A B T) (o:Obj):aH (w.alloc o) b g n a c D S I C A B T:=h.below (cj.alloc aT o)
def aH.jz (h:aH w b g n a c D S I C A B T) (v:Nat):aH (w.setCell (af b 1) (ab v)) b g n v c D S I C A B T:=mK
def aH.xA (h:aH w b g n a c D S I C A B T) (v:Nat):aH (w.setCell (af b 2) (ab v)) b g n a v D S I C A B T:=mK
def aH.OS (h:aH w b g n a c D S I C A B T) (p:Nat) (d:p<=n) (v:Nat):aH (w.setCell (af g (p*7)) (aj v)) b g n a c (ay D p v) S I C A B T:=mK
def aH.kO (h:aH w b g n a c D S I C A B T) (p:Nat) (d:p<=n) (v:Nat):aH (w.setCell (af g (p*7+1)) (aj v)) b g n a c D (ay S p v) I C A B T:=mK
def aH.OJ (h:aH w b g n a c D S I C A B T) (p:Nat) (d:p<=n) (v:Nat):aH (w.setCell (af g (p*7+2)) (ab v)) b g n a c D S (ay I p v) C A B T:=mK
def aH.fQ (h:aH w b g n a c D S I C A B T) (p:Nat) (d:p<=n) (v:Nat):aH (w.setCell (af g (p*7+3)) (ab v)) b g n a c D S I (ay C p v) A B T:=mK
def aH.gk (h:aH w b g n a c D S I C A B T) (p:Nat) (d:p<=n) (v:Nat):aH (w.setCell (af g (p*7+4)) (ab v)) b g n a c D S I C (ay A p v) B T:=mK
def aH.gd (h:aH w b g n a c D S I C A B T) (p:Nat) (d:p<=n) (v:Nat):aH (w.setCell (af g (p*7+5)) (ab v)) b g n a c D S I C A (ay B p v) T:=mK
def aH.nX (h:aH w b g n a c D S I C A B T) (p:Nat) (d:p<=n) (v:Bool):aH (w.setCell (af g (p*7+6)) (.bool v)) b g n a c D S I C A B (ay T p v):=mK
end
attribute [local go_sem ↓] Go.wp_at_zero Go.wp_at_succ
def lW:Value:= .agg #[aj 0,aj 0,ab 0,ab 0,ab 0,ab 0,.bool false]
def dY (n:Nat):Array Value:=madeCells lW.cells ((n+1)*7)
theorem jn (n k:Nat) (h:k<(n+1)*7):(dY n)[k]? =some ((#[Value.int .u64 0,aj 0,ab 0,ab 0,ab 0,ab 0,.bool false]:Array Value)[k%7]!):=by
 unfold dY madeCells lW
 simp[Value.cells,h]
theorem GH:(Tryz.prog.info? 337).map (fun i=>(i.zero,i.size,i.bytes))=some (some lW,7,56):=by rfl
def jl (w:World) (n:Nat):
  aH ((w.alloc (.cells (dY n) 337)).alloc (.cells #[.slice (some (ao w.heap.size)) (n+1) (n+1),ab 0,ab 0] 277)) (w.heap.size+1) w.heap.size n 0 0 (fun _=>0) (fun _=>0) (fun _=>0) (fun _=>0) (fun _=>0) (fun _=>0) (fun _=>false):=by
 have e:w.heap.size+1=(w.alloc (.cells (dY n) 337)).heap.size:=q_
 have d: ∀i,((w.alloc (.cells (dY n) 337)).alloc (.cells #[.slice (some (ao w.heap.size)) (n+1) (n+1),ab 0,ab 0] 277)).cell? (af (w.heap.size+1) i)=(#[.slice (some (ao w.heap.size)) (n+1) (n+1),ab 0,ab 0]:Array Value)[i]? :=by
  simp
 have b: ∀i,((w.alloc (.cells (dY n) 337)).alloc (.cells #[.slice (some (ao w.heap.size)) (n+1) (n+1),ab 0,ab 0] 277)).cell? (af w.heap.size i)=(dY n)[i]? :=by
  simp
 have c: ∀i,((w.alloc (.cells (dY n) 337)).alloc (.cells #[.slice (some (ao w.heap.size)) (n+1) (n+1),ab 0,ab 0] 277)).frozen? (af w.heap.size i)=false:=by
  simp
 refine⟨z_,y_,q_,q_,fun x a=> ?_,fun x a=> ?_,fun x a=> ?_,fun x a=> ?_,fun x a=> ?_,fun x a=> ?_,fun x a=> ?_,fun o=>by simp,c⟩
 ·grind[Ph.jn]
 ·grind[Ph.jn]
 ·grind[Ph.jn]
 ·grind[Ph.jn]
 ·rw[b,jn n _ z_,show(x*7+4)%7=4 by omega];rfl
 ·rw[b,jn n _ z_,show(x*7+5)%7=5 by omega];rfl
 ·rw[b,jn n _ z_,show(x*7+6)%7=6 by omega];rfl
def ig (n:Nat) (w:World) (i:1<=n) (h:n<=1024):
  aB 115 #[ab n] w fun e w'=>e= .returned (ak (w.heap.size+1))/\aH w' (w.heap.size+1) w.heap.size n 0 0 (fun _=>0) (fun _=>0) (fun _=>0) (fun _=>0) (fun _=>0) (fun _=>0) (fun _=>false)/\aC w w':=by
 obtain⟨d,hi,b,a,c⟩:=info_parts GH
 have f: ∀w,(Instr.makeSlice 275 (ab ((n:Int)+1)) (ab ((n:Int)+1))).run Tryz.prog w= .ok (.slice (some (ao w.heap.size)) (n+1) (n+1)) (w.alloc (.cells (dY n) 337)):=by
  intro w
  have:=run_make w 275 337 d lW q_ hi b .i64 .i64 ((n:Int)+1) ((n:Int)+1) z_ z_ y_ z_
  rw[a,show((n:Int)+1).toNat=n+1 by omega] at this
  exact this
 have g:=aa (jl w n)
 clear hi b a c
 refine ge ?_
 go_wp2
 go_ret
 exact⟨rfl,g.out,bq.alloc q_ _⟩
def EL (d b f c a e:Nat):Bool:=if d=c then(if b=a then decide (f<e) else decide (b<a)) else decide (d<c)
def sE (c a f d2 s2 e:Nat) (w:World):
  vQ 243 #[.agg #[aj c,aj a,ab f],.agg #[aj d2,aj s2,ab e]] w (.bool (EL c a f d2 s2 e)):=by
 generalize b:EL c a f d2 s2 e=bb
 unfold EL at b
 by_cases d:c=d2
 ·rw[if_pos d] at b
  by_cases g:a=s2
  ·rw[if_pos g] at b
   subst d g
   refine ge ?_
   go_wp2
   go_ret
   exact⟨by rfl,bq.alloc q_ _⟩
  ·rw[if_neg g] at b
   have h: ¬(a:Int)=s2:=z_
   subst d
   refine ge ?_
   go_wp2
   go_ret
   exact⟨by rfl,bq.alloc q_ _⟩
 ·rw[if_neg d] at b
  have i: ¬(c:Int)=d2:=z_
  refine ge ?_
  go_wp2
  go_ret
  exact⟨by rfl,bq.alloc q_ _⟩
section
variable {w:World} {b g n rt ct:Nat} {D S I C A B:Nat->Nat} {T:Nat->Bool}
def Cm (a:Nat) (w:World) (b:Nat):
  vS 238 #[ak b,ab 0,ab a] w (ab a):=by
 refine ge ?_
 go_wp2
 go_ret
 simp
def qH (a:Nat) (c:1<=a) (w:World) (b:Nat):
  vS 238 #[ak b,ab a,ab 0] w (ab a):=by
 have d: ¬(a:Int)=0:=z_
 refine ge ?_
 go_wp2
 go_ret
 simp
def se (h:aH w b g n rt ct D S I C A B T) (p q:Nat) (hp:1<=p) (c:p<=n) (hq:1<=q) (a:q<=n) (F:C p<=n) (E:C p≠q)
  (k:EL (D p) (S p) (I p) (D q) (S q) (I q)=true):
  aB 238 #[ak b,ab q,ab p] w fun e w'=>e= .returned (ab p)/\
   aH w' b g n rt ct D S I (ay C p q) (ay (if C p=0 then A else ay A (C p) q) q p) (ay B q (C p)) T/\aW b g w w':=by
 obtain⟨cp,v⟩:=h.sl
 have u:=h.nd p c;have t:=h.ns p c;have s:=h.ni p c
 have r:=h.nd q a;have o:=h.ns q a;have m:=h.ni q a
 have p0: ¬(p:Int)=0:=z_
 have q0: ¬(q:Int)=0:=z_
 have pl:p<n+1:=z_
 have Q:q<n+1:=z_
 have U:(0:Int)<=(p:Int):=z_
 have P:(0:Int)<=(q:Int):=z_
 obtain⟨L,H⟩: ∃L,L=n+1:=⟨_,rfl⟩
 rw[<-H] at v
 have R:(p:Int)<L:=z_
 have O:(q:Int)<L:=z_
 have x:=aa H
 clear H pl Q
 have HB:=aa fun z (W:aC w z)=>h.below W
 have y:=sE (D p) (S p) (I p) (D q) (S q) (I q)
 rw[k] at y
 have y:=aa y
 have G:=h.cG
 have d:=h.dO
 clear h k
 refine ge ?_
 go_wp2
 go_region_held3 (fun w'=>w'.cell? (ao b)=some (.slice (some (ao g)) L cp)/\w'.cell? (af g (p*7))=some (aj (D p))/\w'.cell? (af g (p*7+1))=some (aj (S p))/\w'.cell? (af g (p*7+2))=some (ab (I p))/\w'.cell? (af g (q*7))=some (aj (D q))/\w'.cell? (af g (q*7+1))=some (aj (S q))/\w'.cell? (af g (q*7+2))=some (ab (I q)))
  (first|go_keep|exact⟨(hb1.cell (p:=(ao b)) G).trans v,(hb1.cell (p:=(af g (p*7))) d).trans u,(hb1.cell (p:=(af g (p*7+1))) d).trans t,(hb1.cell (p:=(af g (p*7+2))) d).trans s,(hb1.cell (p:=(af g (q*7))) d).trans r,(hb1.cell (p:=(af g (q*7+1))) d).trans o,(hb1.cell (p:=(af g (q*7+2))) d).trans m⟩)
  ((go_at_call 243;refine(y.out _).mono ?_;rintro e z ⟨rfl,l⟩;have hb1:=(show aC w w.drew from cj.drew).trans l;clear l))
 have i:=HB.out _ hb1
 have HL:=aa hb1
 have N:=aa i
 clear hb1 v u t s r o m
 obtain⟨Z,v⟩:=i.sl
 rw[<-x.out] at v
 have J:=i.nc p c
 have c2:=i.na q a
 have c3:=i.nb q a
 have fg:=i.fg
 by_cases j:C p=0
 ·rw[j] at J
  have a0:z.cell? (af g (p*7+3))=some (ab 0):=J
  have M:=aa j
  clear i J j F E
  go_wp2
  go_region
  go_wp2
  go_ret
  refine⟨rfl,?_,?_⟩
  ·exact(((N.out.gk q a p).gd q a 0).fQ p c q).drew
  ·exact((((aW.jK HL.out).set (af g (q*7+4)) _ (Or.inr rfl)).set (af g (q*7+5)) _ (Or.inr rfl)).set (af g (p*7+3)) _ (Or.inr rfl)).drew
 ·have c4:=i.na (C p) F
  have M:=aa j
  generalize V:C p=f at*
  have f0: ¬(f:Int)=0:=z_
  have Y:(0:Int)<=(f:Int):=z_
  have X:(f:Int)<L:=by have:=x.out;omega
  clear i
  go_wp2
  go_region
  go_wp2
  go_ret
  refine⟨rfl,?_,?_⟩
  ·exact((((N.out.gk f F q).gk q a p).gd q a f).fQ p c q).drew
  ·exact(((((aW.jK HL.out).set (af g (f*7+4)) _ (Or.inr rfl)).set (af g (q*7+4)) _ (Or.inr rfl)).set (af g (q*7+5)) _ (Or.inr rfl)).set (af g (p*7+3)) _ (Or.inr rfl)).drew
def rK (h:aH w b g n rt ct D S I C A B T) (p q:Nat) (hp:1<=p) (c:p<=n) (hq:1<=q) (a:q<=n) (F:C p<=n) (E:C p≠q)
  (k:EL (D q) (S q) (I q) (D p) (S p) (I p)=false):
  aB 238 #[ak b,ab p,ab q] w fun e w'=>e= .returned (ab p)/\
   aH w' b g n rt ct D S I (ay C p q) (ay (if C p=0 then A else ay A (C p) q) q p) (ay B q (C p)) T/\aW b g w w':=by
 obtain⟨cp,v⟩:=h.sl
 have u:=h.nd p c;have t:=h.ns p c;have s:=h.ni p c
 have r:=h.nd q a;have o:=h.ns q a;have m:=h.ni q a
 have p0: ¬(p:Int)=0:=z_
 have q0: ¬(q:Int)=0:=z_
 have pl:p<n+1:=z_
 have Q:q<n+1:=z_
 have U:(0:Int)<=(p:Int):=z_
 have P:(0:Int)<=(q:Int):=z_
 obtain⟨L,H⟩: ∃L,L=n+1:=⟨_,rfl⟩
 rw[<-H] at v
 have R:(p:Int)<L:=z_
 have O:(q:Int)<L:=z_
 have x:=aa H
 clear H pl Q
 have HB:=aa fun z (W:aC w z)=>h.below W
 have y:=sE (D q) (S q) (I q) (D p) (S p) (I p)
 rw[k] at y
 have y:=aa y
 have G:=h.cG
 have d:=h.dO
 clear h k
 refine ge ?_
 go_wp2
 go_region_held3 (fun w'=>w'.cell? (ao b)=some (.slice (some (ao g)) L cp)/\w'.cell? (af g (p*7))=some (aj (D p))/\w'.cell? (af g (p*7+1))=some (aj (S p))/\w'.cell? (af g (p*7+2))=some (ab (I p))/\w'.cell? (af g (q*7))=some (aj (D q))/\w'.cell? (af g (q*7+1))=some (aj (S q))/\w'.cell? (af g (q*7+2))=some (ab (I q)))
  (first|go_keep|exact⟨(hb1.cell (p:=(ao b)) G).trans v,(hb1.cell (p:=(af g (p*7))) d).trans u,(hb1.cell (p:=(af g (p*7+1))) d).trans t,(hb1.cell (p:=(af g (p*7+2))) d).trans s,(hb1.cell (p:=(af g (q*7))) d).trans r,(hb1.cell (p:=(af g (q*7+1))) d).trans o,(hb1.cell (p:=(af g (q*7+2))) d).trans m⟩)
  ((go_at_call 243;refine(y.out _).mono ?_;rintro e z ⟨rfl,l⟩;have hb1:=(show aC w w.drew from cj.drew).trans l;clear l))
 have i:=HB.out _ hb1
 have HL:=aa hb1
 have N:=aa i
 clear hb1 v u t s r o m
 obtain⟨Z,v⟩:=i.sl
 rw[<-x.out] at v
 have J:=i.nc p c
 have c2:=i.na q a
 have c3:=i.nb q a
 have fg:=i.fg
 by_cases j:C p=0
 ·rw[j] at J
  have a0:z.cell? (af g (p*7+3))=some (ab 0):=J
  have M:=aa j
  clear i J j F E
  go_wp2
  go_region
  go_wp2
  go_ret
  refine⟨rfl,?_,?_⟩
  ·exact(((N.out.gk q a p).gd q a 0).fQ p c q).drew
  ·exact((((aW.jK HL.out).set (af g (q*7+4)) _ (Or.inr rfl)).set (af g (q*7+5)) _ (Or.inr rfl)).set (af g (p*7+3)) _ (Or.inr rfl)).drew
 ·have c4:=i.na (C p) F
  have M:=aa j
  generalize V:C p=f at*
  have f0: ¬(f:Int)=0:=z_
  have Y:(0:Int)<=(f:Int):=z_
  have X:(f:Int)<L:=by have:=x.out;omega
  clear i
  go_wp2
  go_region
  go_wp2
  go_ret
  refine⟨rfl,?_,?_⟩
  ·exact((((N.out.gk f F q).gk q a p).gd q a f).fQ p c q).drew
  ·exact(((((aW.jK HL.out).set (af g (f*7+4)) _ (Or.inr rfl)).set (af g (q*7+4)) _ (Or.inr rfl)).set (af g (q*7+5)) _ (Or.inr rfl)).set (af g (p*7+3)) _ (Or.inr rfl)).drew
end
section
variable {w:World} {b g n c a:Nat} {D S I C A B:Nat->Nat} {T:Nat->Bool}
def rk (h:aH w b g n c a D S I C A B T) (f d s r:Nat) (G:f<n) (hn:n<=1024) (L:a<=1024) {y v x z F E:Nat->Nat} {u:Nat->Bool}
  (t: ∀k,aH k b g n c a (ay D (f+1) d) (ay S (f+1) s) (ay I (f+1) f) (ay C (f+1) 0) (ay A (f+1) 0) (ay B (f+1) 0) (ay T (f+1) true)->aB 238 #[ak b,ab c,ab ((f:Int)+1)] k fun e w'=>e= .returned (ab r)/\aH w' b g n c a y v x z F E u/\aW b g k w'):
  aB 239 #[ak b,.agg #[aj d,aj s,ab f]] w fun e w'=>e=aS #[]/\aH w' b g n r (a+1) y v x z F E u/\aW b g w w':=by
 have hi:f+1<=n:=z_
 obtain⟨cp,e0⟩:=h.sl
 have e1:=h.rt
 have e2:=h.ct
 have n0:=h.nd (f+1) hi;have n1:=h.ns (f+1) hi;have n2:=h.ni (f+1) hi;have Z:=h.nc (f+1) hi;have Y:=h.na (f+1) hi;have X:=h.nb (f+1) hi;have W:=h.nt (f+1) hi
 have fg:=h.fg
 have fb:=h.fb
 have M:=h.cG
 have H:=h.dO
 have l:=h.bg
 have J:g≠b:=fun e=>l e.symm
 have P: ¬b=w.heap.size:=z_
 have O: ¬g=w.heap.size:=z_
 have q:Hid (aW b g w (((((((((w.setCell (af g ((f+1)*7)) (aj d)).setCell (af g ((f+1)*7+1)) (aj s)).setCell (af g ((f+1)*7+2)) (ab f)).setCell (af g ((f+1)*7+3)) (ab 0)).setCell (af g ((f+1)*7+4)) (ab 0)).setCell (af g ((f+1)*7+5)) (ab 0)).setCell (af g ((f+1)*7+6)) (.bool true)).alloc (.cells #[aj d,aj s,ab f] 335)).drew)):=
  ((((((((((aW.refl b g w).set _ _ (Or.inr rfl)).set _ _ (Or.inr rfl)).set _ _ (Or.inr rfl)).set _ _ (Or.inr rfl)).set _ _ (Or.inr rfl)).set _ _ (Or.inr rfl)).set _ _ (Or.inr rfl)).alloc _).drew)
 have o:Hid (aH (((((((((w.setCell (af g ((f+1)*7)) (aj d)).setCell (af g ((f+1)*7+1)) (aj s)).setCell (af g ((f+1)*7+2)) (ab f)).setCell (af g ((f+1)*7+3)) (ab 0)).setCell (af g ((f+1)*7+4)) (ab 0)).setCell (af g ((f+1)*7+5)) (ab 0)).setCell (af g ((f+1)*7+6)) (.bool true)).alloc (.cells #[aj d,aj s,ab f] 335)).drew) b g n c a (ay D (f+1) d) (ay S (f+1) s) (ay I (f+1) f) (ay C (f+1) 0) (ay A (f+1) 0) (ay B (f+1) 0) (ay T (f+1) true)):=
  ((((((((h.OS (f+1) hi d).kO (f+1) hi s).OJ (f+1) hi f).fQ (f+1) hi 0).gk (f+1) hi 0).gd (f+1) hi 0).nX (f+1) hi true).alloc _).drew
 have N:=aa t
 clear h t
 refine ge ?_
 go_wp2
 go_region
 go_wp2_with (go_at_call 238;refine(N.out _ o.out).mono ?_;rintro e Q ⟨rfl,i,j⟩;have V:=i.rt;have U:=i.ct;have R:=i.fb;have m:=aa i;have p:=aa (q.out.trans j);clear i j)
 go_end0
 refine⟨rfl,(m.out.jz r).xA (a+1),(p.out.set (af b 1) _ (Or.inl rfl)).set (af b 2) _ (Or.inl rfl)⟩
end
section
variable {w:World} {b g n a c:Nat} {D S I C A B:Nat->Nat} {T:Nat->Bool}
def Nt (h:aH w b g n a c D S I C A B T) (x d:Nat) (f:x<=n) (i:d<=n) (m:A x=d) (l:C d=x) (k:B x=0):
  aB 237 #[ak b,ab x] w fun e w'=>e=aS #[]/\aH w' b g n a c D S I (ay C d 0) A B T/\aW b g w w':=by
 obtain⟨M,L⟩:=h.sl
 have H:=h.nd x f;have G:=h.ns x f;have F:=h.ni x f;have E:=h.nc x f;have p:=h.na x f;have j:=h.nb x f;have z:=h.nt x f
 rw[m] at p
 rw[k] at j
 have o:w.cell? (af g (x*7+5))=some (ab 0):=j
 have s:=h.nc d i
 rw[l] at s
 have J:=h.fg
 have r:=h.cG
 have q:=h.dO
 have v: ¬b=w.heap.size:=z_
 have u: ¬g=w.heap.size:=z_
 have y:x<n+1:=z_
 have N:d<n+1:=z_
 have t:=aa h
 clear h m l k j
 refine ge ?_
 go_wp2
 go_quiet (fail)
 go_wp2
 go_region
 go_wp2
 go_end0
 exact⟨rfl,((t.out.alloc _).drewN _).fQ d i 0,(((aW.refl b g w).alloc _).drewN _).set _ _ (Or.inr rfl)⟩
end
section
variable {w:World} {b g n a c:Nat} {D S I C A B:Nat->Nat} {T:Nat->Bool}
def sk (h:aH w b g n a c D S I C A B T) (x:Nat) (d:x<=n):
  aH (((((((w.setCell (af g (x*7)) (aj 0)).setCell (af g (x*7+1)) (aj 0)).setCell (af g (x*7+2)) (ab 0)).setCell (af g (x*7+3)) (ab 0)).setCell (af g (x*7+4)) (ab 0)).setCell (af g (x*7+5)) (ab 0)).setCell (af g (x*7+6)) (.bool false)) b g n a c (ay D x 0) (ay S x 0) (ay I x 0) (ay C x 0) (ay A x 0) (ay B x 0) (ay T x false):=
 ((((((h.OS x d 0).kO x d 0).OJ x d 0).fQ x d 0).gk x d 0).gd x d 0).nX x d false
end
end Go.Proofs.YtnmhcgpnhlhcgaaGreatDoor.Ph
namespace Go.Proofs.YtnmhcgpnhlhcgaaGreatDoor.Ph
open Go.RowKit
section
variable {w:World} {b g n a c:Nat} {D S I C A B:Nat->Nat} {T:Nat->Bool}
def dp (h:aH w b g n a c D S I C A B T) (d:Nat) (f:n<=1024) (e:d<n):
  vS 222 #[ak b,ab d] w (.bool true):=by
 obtain⟨j,i⟩:=h.sl
 clear h
 refine ge ?_
 go_wp2
 go_ret
 simp
def wG (h:aH w b g n a c D S I C A B T) (f d s:Nat) (m:n<=1024) (i:f<n) (k:T (f+1)=false) (P:World->Prop)
  (l:aB 239 #[ak b,.agg #[aj d,aj s,ab f]] w fun e w'=>e=aS #[]/\P w'):
  aB 225 #[ak b,ab f,aj d,aj s] w fun e w'=>e= .returned (ab 0)/\P w':=by
 have q:=aa (dp h f m i)
 have p:=aa l
 obtain⟨u,t⟩:=h.sl
 have o:=h.nt (f+1) z_
 rw[k] at o
 clear h l k
 refine ge ?_
 go_wp2_with (first
  |(go_at_call 222;refine cS q.out ?_)
  |(go_at_call 239;refine cH p.out fun r j=> ?_))
 go_ret
 exact⟨rfl,j.out⟩
def wk (h:aH w b g n a c D S I C A B T) (d:Nat) (l:n<=1024) (f:d<n) (j:T (d+1)=true) (P:World->Prop)
  (k:aB 224 #[ak b,ab ((d+1:Nat):Int)] w fun e w'=>e=aS #[]/\P w'):
  aB 203 #[ak b,ab d] w fun e w'=>e= .returned (ab 0)/\P w':=by
 have p:=aa (dp h d l f)
 have o:=aa k
 obtain⟨s,r⟩:=h.sl
 have m:=h.nt (d+1) z_
 rw[j] at m
 clear h k j
 refine ge ?_
 go_wp2_with (first
  |(go_at_call 222;refine cS p.out ?_)
  |(go_at_call 224;refine cH o.out fun q i=> ?_))
 go_ret
 exact⟨rfl,i.out⟩
def GW (h:aH w b g n a c D S I C A B T) (k:1<=a) (f:a<=n):
  aB 217 #[ak b] w fun e d=>e=aS #[ab (I a:Int),.bool true]/\ ∃q,d=w.drewN q:=by
 obtain⟨p,o⟩:=h.sl
 have m:=h.rt
 have l:=h.ni a f
 have j: ¬(a:Int)=0:=z_
 have i:a<n+1:=z_
 clear h
 refine ge ?_
 go_wp2
 go_quiet (fail)
 go_wp2
 go_ret2
 exact⟨rfl,_,rfl⟩
end
end Go.Proofs.YtnmhcgpnhlhcgaaGreatDoor.Ph
namespace Go.Proofs.YtnmhcgpnhlhcgaaGreatDoor.Ph
inductive BT where
 |nil:BT
 |node (s:Nat) (c x:BT):BT
def BT.root:BT->Nat
 | .nil=>0
 | .node s _ _=>s
def BT.ai:BT->List Nat
 | .nil=>[]
 | .node s c x=>s::(c.ai++x.ai)
def bQ (C A B:Nat->Nat):Nat->BT->Prop
 |_,.nil=>True
 |p,.node s c x=>A s=p/\C s=c.root/\B s=x.root/\bQ C A B s c/\bQ C A B s x
def Tree (C A B:Nat->Nat) (r:Nat) (c:BT):Prop:=C r=c.root/\B r=0/\bQ C A B r c
theorem bd {C A B b e d:Nat->Nat}: ∀(t:BT) (p:Nat),(∀s∈t.ai,b s=C s/\e s=A s/\d s=B s)->bQ C A B p t->bQ b e d p t
 | .nil,_,_,_=>trivial
 | .node s c x,p,h,f=>by
  obtain⟨l,k,j,i,g⟩:=f
  obtain⟨o,n,m⟩:=h s (by simp[BT.ai])
  exact⟨n.trans l,o.trans k,m.trans j,bd c s (fun y a=>h y (by simp[BT.ai,a])) i,bd x s (fun y a=>h y (by simp[BT.ai,a])) g⟩
theorem oy {C A B d:Nat->Nat} (t:BT) (p q:Nat) (b:t.ai.Nodup) (l:t.root∈t.ai->d t.root=q) (h: ∀s∈t.ai,s≠t.root->d s=A s) (f:bQ C A B p t):bQ C d B q t:=by
 cases t with
 |nil=>trivial
 |node s c x=>
  obtain⟨m,k,j,i,g⟩:=f
  simp only[BT.ai,yV0,List.mem_append,not_or] at b
  refine⟨l (by simp[BT.ai,BT.root]),k,j,?_,?_⟩
  ·exact bd c s (fun y a=>⟨rfl,h y (by simp[BT.ai,a]) (fun e=>b.1.1 (by rw[BT.root] at e;grind)),rfl⟩) i
  ·exact bd x s (fun y a=>⟨rfl,h y (by simp[BT.ai,a]) (fun e=>b.1.2 (by rw[BT.root] at e;grind)),rfl⟩) g
theorem uG {t:BT} (h:t≠ .nil):t.root∈t.ai:=by
 cases t with
 |nil=>grind
 |node s c x=>simp[BT.root,BT.ai]
def BU {C A B:Nat->Nat} {p q:Nat} {cp cq:BT} (n:Tree C A B p cp) (m:Tree C A B q cq) (d:(p::q::(cq.ai++cp.ai)).Nodup) (D: ∀s∈cp.ai,s≠0):
  Tree (ay C p q) (ay (if C p=0 then A else ay A (C p) q) q p) (ay B q (C p)) p (.node q cq cp):=by
 obtain⟨g,w,v⟩:=n
 obtain⟨u,t,f⟩:=m
 simp only[yV0,List.mem_cons,List.mem_append,not_or,List.nodup_append] at d
 obtain⟨⟨b,j,i⟩,⟨a,h⟩,z,y,r⟩:=d
 have l:q≠p:=fun e=>b e.symm
 refine⟨by rw[aE];rfl,by grind[ay],by rw[aE],by grind[ay],by grind[ay],?_,?_⟩
 ·refine bd cq q (fun s k=>⟨aq _ _ _ _ y_,?_,aq _ _ _ _ y_⟩) f
  have c:s≠q:=fun e=>a (e▸k)
  rw[aq _ _ _ _ c]
  by_cases hz:C p=0
  ·grind
  ·rw[if_neg hz,aq]
   intro e
   have o:cp≠ .nil:=fun q=>hz (by rw[g,q];rfl)
   grind[Ph.uG]
 ·have x:bQ C (ay (if C p=0 then A else ay A (C p) q) q p) B q cp:=by
   grind[Ph.oy,ay]
  grind[Ph.bd,aq]
def Ord (le:Nat->Nat->Prop):BT->Prop
 | .nil=>True
 | .node s c x=>(∀y∈c.ai,le s y)/\Ord le c/\Ord le x
def jT {le:Nat->Nat->Prop} (h: ∀a b c,le a b->le b c->le a c) {p q:Nat} {cp cq:BT} (g:le p q) (j: ∀y∈cp.ai,le p y) (f: ∀y∈cq.ai,le q y) (e:Ord le cp) (d:Ord le cq):
  (∀y∈(BT.node q cq cp).ai,le p y)/\Ord le (.node q cq cp):=by
 refine⟨fun y i=> ?_,f,d,e⟩
 grind[Ph.BT.ai]
open Go.RowKit
attribute [local go_sem ↓] Go.wp_at_zero Go.wp_at_succ
section
variable {w:World} {b g n a c:Nat} {D S I C A B:Nat->Nat} {T:Nat->Bool}
def H4 (h:aH w b g n a c D S I C A B T) (x d f:Nat) (i:x<=n) (j:d<=n) (k:f<=n) (t:A x=d) (s:B x=f):
  aB 237 #[ak b,ab x] w fun e w'=>e=aS #[]/\aH w' b g n a c D S I (if C d=x then ay C d f else C) (if f=0 then A else ay A f d) (if C d=x then B else ay B d f) T/\aW b g w w':=by
 obtain⟨U,R⟩:=h.sl
 have O:=h.nd x i;have N:=h.ns x i;have M:=h.ni x i;have L:=h.nc x i;have v:=h.na x i;have m:=h.nb x i;have J:=h.nt x i
 rw[t] at v
 rw[s] at m
 have u:=h.nc d j
 have W:=h.nb d j
 have V:=h.na f k
 have Q:=h.fg
 have z:=h.cG
 have y:=h.dO
 have G: ¬b=w.heap.size:=z_
 have F: ¬g=w.heap.size:=z_
 have H:x<n+1:=z_
 have X:d<n+1:=z_
 have P:f<n+1:=z_
 have o:=aa h
 clear h t s
 by_cases r:C d=x
 ·have l:(C d:Int)=(x:Int):=by omega
  by_cases q:f=0
  ·subst q
   rw[r] at u
   have p:w.cell? (af g (x*7+5))=some (ab 0):=m
   clear l m
   refine ge ?_
   go_wp2
   go_quiet (fail)
   go_wp2
   go_region
   go_wp2
   go_end0
   exact⟨rfl,((o.out.alloc _).drewN _).fQ d j 0,(((aW.refl b g w).alloc _).drewN _).set _ _ (Or.inr rfl)⟩
  ·have E: ¬(f:Int)=0:=by omega
   rw[r] at u
   clear l
   refine ge ?_
   go_wp2
   go_quiet (fail)
   go_wp2
   go_region
   go_wp2
   go_region
   go_wp2
   go_end0
   exact⟨rfl,((((o.out.alloc _).drewN _).fQ d j f).gk f k d).drew,(((((aW.refl b g w).alloc _).drewN _).set _ _ (Or.inr rfl)).set _ _ (Or.inr rfl)).drew⟩
 ·have l: ¬(C d:Int)=(x:Int):=by omega
  by_cases q:f=0
  ·subst q
   have p:w.cell? (af g (x*7+5))=some (ab 0):=m
   clear m
   refine ge ?_
   go_wp2
   go_quiet (fail)
   go_wp2
   go_region
   go_wp2
   go_end0
   exact⟨rfl,((o.out.alloc _).drewN _).gd d j 0,(((aW.refl b g w).alloc _).drewN _).set _ _ (Or.inr rfl)⟩
  ·have E: ¬(f:Int)=0:=by omega
   refine ge ?_
   go_wp2
   go_quiet (fail)
   go_wp2
   go_region
   go_wp2
   go_region
   go_wp2
   go_end0
   exact⟨rfl,((((o.out.alloc _).drewN _).gd d j f).gk f k d).drew,(((((aW.refl b g w).alloc _).drewN _).set _ _ (Or.inr rfl)).set _ _ (Or.inr rfl)).drew⟩
end
end Go.Proofs.YtnmhcgpnhlhcgaaGreatDoor.Ph
namespace Go.Proofs.YtnmhcgpnhlhcgaaGreatDoor.Ph
def BT.cut (s:Nat):BT->BT
 | .nil=> .nil
 | .node r c x=>if r=s then x else .node r (c.cut s) (x.cut s)
def j6 (s:Nat): ∀t:BT,s ∉ t.ai->t.cut s=t
 | .nil,_=>rfl
 | .node r c x,h=>by
  simp only[BT.ai,List.mem_cons,List.mem_append,not_or] at h
  rw[BT.cut,if_neg z_,j6 s c h.2.1,j6 s x h.2.2]
theorem qE (s:Nat) (t:BT) (h:t.root≠s):(t.cut s).root=t.root:=by
 cases t with
 |nil=>rfl
 |node r c x=>rw[BT.cut,if_neg (show¬r=s from h)];rfl
theorem dN {C A B:Nat->Nat}: ∀(t:BT) (p s:Nat),bQ C A B p t->s∈t.ai->
  ((s=t.root/\A s=p)\/A s∈t.ai)/\(B s=0\/B s∈t.ai)
 | .nil,_,_,_,h=>by simp[BT.ai] at h
 | .node r c x,p,s,e,d=>by
  obtain⟨j,l,i,g,f⟩:=e
  simp only[BT.ai,List.mem_cons,List.mem_append] at d|-
  rcases d with rfl|d|d
  ·refine⟨.inl ⟨rfl,j⟩,?_⟩
   rw[i]
   cases x with
   |nil=>exact .inl rfl
   |node y m k=>grind[Ph.BT.root,Ph.BT.ai]
  ·obtain⟨a,b⟩:=dN c r s g d
   grind
  ·obtain⟨a,b⟩:=dN x r s f d
   grind
def og (C A B:Nat->Nat) (s:Nat):Nat->Nat:=if C (A s)=s then ay C (A s) (B s) else C
def lL (C A B:Nat->Nat) (s:Nat):Nat->Nat:=if C (A s)=s then B else ay B (A s) (B s)
def oO (_C A B:Nat->Nat) (s:Nat):Nat->Nat:=if B s=0 then A else ay A (B s) (A s)
theorem ij {C A B:Nat->Nat} {s y:Nat} (h:y≠A s):og C A B s y=C y:=by
 rw[og];grind[ay]
theorem gi {C A B:Nat->Nat} {s y:Nat} (h:y≠A s):lL C A B s y=B y:=by
 rw[lL];grind[ay]
theorem ja {C A B:Nat->Nat} {s y:Nat} (h:B s=0\/y≠B s):oO C A B s y=A y:=by
 rw[oO];grind[ay]
def kZ {C A B:Nat->Nat}: ∀(t:BT) (p s:Nat),bQ C A B p t->(p::t.ai).Nodup->(∀y∈t.ai,y≠0)->s∈t.ai->
  bQ (og C A B s) (oO C A B s) (lL C A B s) p (t.cut s)/\(s=t.root->(t.cut s).root=B s)
 | .nil,_,_,_,_,_,h=>by simp[BT.ai] at h
 | .node r c x,p,s,Y,R,T,f=>by
  obtain⟨N,S,M,u,o⟩:=Y
  simp only[BT.ai,yV0,List.mem_cons,List.mem_append,not_or,List.nodup_append] at R f
  obtain⟨⟨V,W,U⟩,⟨l,k⟩,hc,Q,Z⟩:=R
  have O: ∀y∈c.ai,y≠0:=fun y d=>T y (by simp[BT.ai,d])
  have v: ∀y∈x.ai,y≠0:=fun y d=>T y (by simp[BT.ai,d])
  have G:=yV0.2 ⟨l,hc⟩
  have D:=yV0.2 ⟨k,Q⟩
  rcases f with rfl|f|f
  ·have e:(BT.node s c x).cut s=x:=by rw[BT.cut,if_pos rfl]
   rw[e]
   refine⟨?_,fun _=>M.symm⟩
   have hm:bQ C (oO C A B s) B p x:=by
    refine oy x s p Q (fun hr=> ?_) (fun y d X=>ja z_) o
    have hz:B s≠0:=y_
    rw[oO,if_neg hz,M,aE,N]
   grind[Ph.bd,Ph.ij,Ph.gi]
  ·have g:r≠s:=fun e=>l (e▸f)
   have E:s ∉ x.ai:=fun q=>y_
   have e:(BT.node r c x).cut s= .node r (c.cut s) x:=by rw[BT.cut,if_neg g,j6 s x E]
   rw[e]
   refine⟨?_,fun q=>absurd q.symm g⟩
   obtain⟨I,H⟩:=kZ c r s u G O f
   obtain⟨a,b⟩:=dN c r s u f
   have J: ∀y∈x.ai,B s=0\/y≠B s:=fun y d=>y_
   have m: ∀y∈x.ai,y≠A s:=fun y d q=>by
    grind
   refine⟨?_,?_,?_,I,bd x r (fun y d=>⟨ij (m y d),ja (J y d),gi (m y d)⟩) o⟩
   ·rw[ja (y:=r) (s:=s) y_];exact N
   ·by_cases i:s=c.root
    ·have j:A s=r:=by
      rcases a with ⟨_,a⟩|a
      ·exact a
      ·cases c with
       |nil=>simp[BT.ai] at f
       |node z P w=>rw[BT.root] at i;rw[i];exact u.1
     rw[og,if_pos y_,j,aE,H i]
    grind[Ph.ij,Ph.qE]
   ·by_cases i:s=c.root
    ·have j:A s=r:=by
      cases c with
       |nil=>simp[BT.ai] at f
       |node z P w=>rw[BT.root] at i;rw[i];exact u.1
     rw[lL,if_pos y_];exact M
    grind[Ph.gi]
  ·have g:r≠s:=fun e=>k (e▸f)
   have F:s ∉ c.ai:=fun q=>y_
   have e:(BT.node r c x).cut s= .node r c (x.cut s):=by rw[BT.cut,if_neg g,j6 s c F]
   rw[e]
   refine⟨?_,fun q=>absurd q.symm g⟩
   obtain⟨I,H⟩:=kZ x r s o D v f
   obtain⟨a,b⟩:=dN x r s o f
   have L: ∀y∈c.ai,B s=0\/y≠B s:=fun y d=>y_
   have n: ∀y∈c.ai,y≠A s:=fun y d q=>by
    grind
   have a0:c.root≠s:=fun q=>by
    cases c with
    |nil=>exact v s f q.symm
    |node z P w=>grind[Ph.BT.root,Ph.BT.ai]
   refine⟨?_,?_,?_,bd c r (fun y d=>⟨ij (n y d),ja (L y d),gi (n y d)⟩) u,I⟩
   ·rw[ja (y:=r) (s:=s) y_];exact N
   ·by_cases j:r=A s
    ·rw[og,if_neg y_];exact S
    ·rw[ij j];exact S
   ·by_cases i:s=x.root
    ·have j:A s=r:=by
      cases x with
       |nil=>simp[BT.ai] at f
       |node z P w=>rw[BT.root] at i;rw[i];exact o.1
     rw[lL,if_neg y_,j,aE,H i]
    grind[Ph.gi,Ph.qE]
def kA (s:Nat): ∀(t:BT) (y:Nat),y∈(t.cut s).ai->y∈t.ai
 | .nil,_,h=>h
 | .node r c x,y,h=>by
  rw[BT.cut] at h
  split at h
  ·simp[BT.ai,h]
  ·simp only[BT.ai,List.mem_cons,List.mem_append] at h|-
   rcases h with h|h|h
   ·omega
   ·exact .inr (.inl (kA s c y h))
   ·exact .inr (.inr (kA s x y h))
def tj {le:Nat->Nat->Prop} (s:Nat): ∀(t:BT),Ord le t->Ord le (t.cut s)
 | .nil,_=>trivial
 | .node r c x,⟨e,d,a⟩=>by
  rw[BT.cut]
  split
  ·exact a
  ·exact⟨fun y b=>e y (kA s c y b),tj s c d,tj s x a⟩
def Row (C A B:Nat->Nat):BT->Prop
 | .nil=>True
 | .node s c x=>C s=c.root/\B s=x.root/\bQ C A B s c/\Row C A B x
def lA {C A B:Nat->Nat}: ∀(t:BT) (p:Nat),bQ C A B p t->Row C A B t
 | .nil,_,_=>trivial
 | .node s _ x,_,⟨_,d,c,b,a⟩=>⟨d,c,b,lA x s a⟩
def fH {C A B b e d:Nat->Nat}: ∀(t:BT),(∀s∈t.ai,b s=C s/\e s=A s/\d s=B s)->Row C A B t->Row b e d t
 | .nil,_,_=>trivial
 | .node s c x,h,⟨j,i,g,f⟩=>by
  obtain⟨l,_,k⟩:=h s (by simp[BT.ai])
  exact⟨l.trans j,k.trans i,bd c s (fun y a=>h y (by simp[BT.ai,a])) g,fH x (fun y a=>h y (by simp[BT.ai,a])) f⟩
def GG (C:Nat->Nat) (p q:Nat):Nat->Nat:=ay C p q
def Hh (C A:Nat->Nat) (p q:Nat):Nat->Nat:=ay (if C p=0 then A else ay A (C p) q) q p
def yn (C B:Nat->Nat) (p q:Nat):Nat->Nat:=ay B q (C p)
theorem Mo {C A B:Nat->Nat} {p q:Nat} {a:BT} (h:C p=a.root) {y:Nat} (d:y≠p) (b:y≠q) (f:y ∉ a.ai):
  GG C p q y=C y/\Hh C A p q y=A y/\yn C B p q y=B y:=by
 refine⟨aq _ _ _ _ d,?_,aq _ _ _ _ b⟩
 rw[Hh,aq _ _ _ _ b]
 by_cases hz:C p=0
 ·grind
 ·rw[if_neg hz,aq]
  intro e
  have c:a≠ .nil:=fun q=>hz (by rw[h,q];rfl)
  grind[Ph.uG]
def ot {C A B:Nat->Nat} {p q:Nat} {cp cq:BT} (h:C p=cp.root) (g:bQ C A B p cp) (f:C q=cq.root) (d:bQ C A B q cq) (i:(p::q::(cq.ai++cp.ai)).Nodup) (j: ∀s∈cp.ai,s≠0):
  bQ (GG C p q) (Hh C A p q) (yn C B p q) p (.node q cq cp):=by
 have k: ∀s∈p::(cq.ai++cp.ai),s≠q:=by
  grind
 have a:=BU (C:=C) (A:=A) (B:=ay (ay B p 0) q 0) (p:=p) (q:=q) (cp:=cp) (cq:=cq)
  ⟨h,by grind[ay],bd cp p (fun s c=>⟨rfl,rfl,by
   grind[ay]⟩) g⟩
  ⟨f,aE _ _ _,bd cq q (fun s c=>⟨rfl,rfl,by
   grind[ay]⟩) d⟩ i j
 refine bd (.node q cq cp) p (fun s c=>⟨rfl,rfl,?_⟩) a.2.2
 simp only[BT.ai,List.mem_cons,List.mem_append] at c
 by_cases e:s=q
 ·subst e;rw[yn,aE,aE]
 ·have b:s≠p:=by
   grind
  rw[yn,aq _ _ _ _ e,aq _ _ _ _ e,aq _ _ _ _ e,aq _ _ _ _ b]
def FY {C A B:Nat->Nat} {p q:Nat} {b c a m:BT} (k:C p=b.root) (j:bQ C A B p b) (i:C q=c.root) (h:bQ C A B q c) (l:Row C A B a) (n:Row C A B m)
  (g:(p::q::(c.ai++b.ai)).Nodup) (r: ∀s∈b.ai,s≠0)
  (t: ∀s,s∈a.ai\/s∈m.ai->s≠p/\s≠q/\s ∉ b.ai):
  Row (GG C p q) (Hh C A p q) (ay (yn C B p q) p m.root) (.node p (.node q c b) m)/\Row (GG C p q) (Hh C A p q) (ay (yn C B p q) p m.root) a/\
  ∀y,y≠p->y≠q->y ∉ b.ai->GG C p q y=C y/\Hh C A p q y=A y/\ay (yn C B p q) p m.root y=B y:=by
 have o:=ot k j i h g r
 have d: ∀y,y≠p->y≠q->y ∉ b.ai->GG C p q y=C y/\Hh C A p q y=A y/\ay (yn C B p q) p m.root y=B y:=by
  grind[Ph.Mo,ay]
 refine⟨⟨by rw[GG,aE];rfl,aE _ _ _,?_,fH m (fun s f=> ?_) n⟩,fH a (fun s f=> ?_) l,d⟩
 ·refine bd (.node q c b) p (fun s f=>⟨rfl,rfl,aq _ _ _ _ ?_⟩) o
  intro e;subst e
  simp only[BT.ai,yV0,List.mem_cons,List.mem_append,not_or] at g f
  grind
 ·grind
 grind
def Jt {C A B:Nat->Nat} {p:Nat} {a m:BT} (c:C p=a.root) (b:bQ C A B p a) (e:Row C A B m) (g:p ∉ a.ai) (f:p ∉ m.ai):
  Row C A (ay B p m.root) (.node p a m):=
 ⟨c,aE _ _ _,bd a p (fun _ d=>⟨rfl,rfl,aq _ _ _ _ y_⟩) b,fH m (fun _ d=>⟨rfl,rfl,aq _ _ _ _ y_⟩) e⟩
def BT.wide:BT->Nat
 | .nil=>0
 | .node _ _ x=>x.wide+1
open Go.RowKit
def Le (D S I:Nat->Nat) (a b:Nat):Prop:=EL (D b) (S b) (I b) (D a) (S a) (I a)=false
theorem le_iff {D S I:Nat->Nat} {a b:Nat}:Le D S I a b↔D a<D b\/(D a=D b/\(S a<S b\/(S a=S b/\I a<=I b))):=by
 rw[Le,EL]
 grind
theorem le_trans {D S I:Nat->Nat} (a b c:Nat) (e:Le D S I a b) (d:Le D S I b c):Le D S I a c:=by
 rw[le_iff] at*;omega
def lR {D S I:Nat->Nat} {a b:Nat} (h:EL (D a) (S a) (I a) (D b) (S b) (I b)=true):Le D S I a b:=by
 grind[Ph.le_iff,Ph.EL]
section
variable {w:World} {b g n rt ct:Nat} {D S I C A B:Nat->Nat} {T:Nat->Bool}
def uU (h:aH w b g n rt ct D S I C A B T) (p q:Nat) (o:1<=p) (c:p<=n) (m:1<=q) (a:q<=n) (s:C p<=n) (r:C q<=n) (k:C p≠q) (j:C q≠p):
  aB 238 #[ak b,ab p,ab q] w fun e w'=> ∃u v:Nat,((u=p/\v=q)\/(u=q/\v=p))/\Le D S I u v/\e= .returned (ab u)/\
   aH w' b g n rt ct D S I (GG C u v) (Hh C A u v) (yn C B u v) T/\aW b g w w':=by
 cases d:EL (D q) (S q) (I q) (D p) (S p) (I p) with
 |false=>
  refine(rK h p q o c m a s k d).mono ?_
  rintro e w' ⟨l,f,i⟩
  exact⟨p,q,mK,d,l,f,i⟩
 |true=>
  refine(se h q p m a o c r j d).mono ?_
  rintro e w' ⟨l,f,i⟩
  exact⟨q,p,q_,lR d,l,f,i⟩
end
structure PI (w:World) (b g n rt ct:Nat) (D S I:Nat->Nat) (T:Nat->Bool) (L:List Nat) (C0 A0 B0:Nat->Nat) (wr:World) (t m:BT):Prop where
 lk: ∃C A B,aH wr b g n rt ct D S I C A B T/\Row C A B t/\Row C A B m/\ ∀y,y ∉ L->C y=C0 y/\A y=A0 y/\B y=B0 y
 o1:Ord (Le D S I) t
 o2:Ord (Le D S I) m
 pm:(t.ai++m.ai).Perm L
 on:aW b g w wr
structure mS (n:Nat) (L:List Nat):Prop where
 nd:L.Nodup
 le: ∀y∈L,1<=y/\y<=n
def qD (w:World) (g r:Nat):Nat:=match w.cell? (af g (r*7+5)) with
 |some v=>(intOf v).toNat
 |none=>0
def chain (w:World) (g:Nat):Nat->Nat->Nat
 |0,_=>0
 |f+1,r=>if r=0 then 0 else chain w g f (qD w g r)+1
def pR {w:World} {b g n e o:Nat} {D S I C A B:Nat->Nat} {T:Nat->Bool} (h:aH w b g n e o D S I C A B T): ∀(t:BT) (f:Nat),Row C A B t->(∀y∈t.ai,1<=y/\y<=n)->t.wide<=f->chain w g f t.root=t.wide
 | .nil,f,_,_,_=>by
  cases f with
  |zero=>rfl
  |succ f=>rfl
 | .node s c x,f,j,a,d=>by
  cases f with
  |zero=>simp[BT.wide] at d
  |succ f=>
   obtain⟨r,m,q,l⟩:=j
   obtain⟨u,p⟩:=a s (by exact mK)
   have k:qD w g s=x.root:=by
    rw[qD,h.nb s p,m];rfl
   rw[BT.root,chain,if_neg z_,k,BT.wide,pR h x f l (fun y i=>a y (by simp[BT.ai,i])) (by rw[BT.wide] at d;omega)]
def Au: ∀t:BT,t.wide<=t.ai.length
 | .nil=>aT
 | .node s c x=>by have:=Au x;grind[Ph.BT.wide,Ph.BT.ai]
section
variable {w:World} {b g n e c:Nat} {D S I:Nat->Nat} {T:Nat->Bool} {L:List Nat} {d a f:Nat->Nat} {wr:World} {t m:BT}
def PI.chain (h:PI w b g n e c D S I T L d a f wr t m) (k:mS n L):chain wr g L.length t.root=t.wide:=by
 obtain⟨C,A,B,j,l,p,o⟩:=h.lk
 refine pR j t _ l (fun y i=>k.le y (h.pm.mem_iff.1 (by simp[i]))) ?_
 have:=h.pm.length_eq
 have:=Au t
 grind
end
section
variable {w:World} {b g n e c:Nat} {D S I:Nat->Nat} {T:Nat->Bool} {L:List Nat} {d a f:Nat->Nat} {wr:World} {C A B:Nat->Nat}
def Ew {j i:Nat} {G F k m:BT} (U:mS n L) (Z:Row C A B (.node j G (.node i F k))) (h2:Row C A B m) (a0: ∀y,y ∉ L->C y=d y/\A y=a y/\B y=f y)
  (Y:Ord (Le D S I) (.node j G (.node i F k))) (o2:Ord (Le D S I) m) (V:((BT.node j G (.node i F k)).ai++m.ai).Perm L)
  {u v:Nat} (J:(u=j/\v=i)\/(u=i/\v=j)) (P:Le D S I u v) (hr:aH wr b g n e c D S I (GG C u v) (Hh C A u v) (yn C B u v) T) (ho:aW b g w wr):
  ∃m':BT,m'.root=u/\m'.wide=m.wide+1/\PI w b g n e c D S I T L d a f (wr.setCell (af g (u*7+5)) (ab m.root)) k m':=by
 obtain⟨p,q,p1,p3,q1,q3,N,M,R,Q,l⟩: ∃p q:BT,C u=p.root/\bQ C A B u p/\C v=q.root/\bQ C A B v q/\(∀y∈p.ai,Le D S I u y)/\(∀y∈q.ai,Le D S I v y)/\Ord (Le D S I) p/\Ord (Le D S I) q/\(k.ai++(BT.node u (.node v q p) m).ai).Perm L:=by
  obtain⟨a1,a2,a3,c1,c2,c3,_⟩:=Z
  obtain⟨X,z,W,x,_⟩:=Y
  rcases J with ⟨rfl,rfl⟩|⟨rfl,rfl⟩
  ·refine⟨G,F,a1,a3,c1,c3,X,W,z,x,List.Perm.trans ?_ V⟩
   grind[Ph.BT.ai]
  ·refine⟨F,G,c1,c3,a1,a3,W,X,x,z,List.Perm.trans ?_ V⟩
   grind[Ph.BT.ai]
 have E:=l.nodup_iff.2 U.nd
 have o:=fun y (H:y∈k.ai++(BT.node u (.node v q p) m).ai)=>l.mem_iff.1 H
 have r:=Z.2.2.2.2.2.2
 have O:((u::v::(q.ai++p.ai))++m.ai).Nodup:=(List.nodup_append.1 E).2.1
 have hn:=(List.nodup_append.1 O).1
 have hd: ∀s,s∈k.ai\/s∈m.ai->s≠u/\s≠v/\s ∉ p.ai:=by
  intro s t
  rcases t with t|t
  ·have H:=(List.nodup_append.1 E).2.2 s t
   grind[Ph.BT.ai]
  grind
 have hz: ∀s∈p.ai,s≠0:=fun s t=>by
  have:=(U.le s (o s (by simp[BT.ai,t]))).1;omega
 obtain⟨k1,k2,k3⟩:=FY p1 p3 q1 q3 r h2 hn hz hd
 have uL:=o u (by simp[BT.ai])
 have vL:=o v (by simp[BT.ai])
 refine⟨.node u (.node v q p) m,rfl,rfl,⟨⟨_,_,_,hr.gd u (U.le u uL).2 m.root,k2,k1,fun y H=> ?_⟩,Y.2.2.2.2,?_,l,ho.set _ _ (Or.inr rfl)⟩⟩
 ·obtain⟨x1,x2,x3⟩:=k3 y y_ y_ (fun h=>H (o y (by simp[BT.ai,h])))
  grind
 ·obtain⟨j1,j2⟩:=jT le_trans P N M R Q
  exact⟨j1,j2,o2⟩
def GM {h:Nat} {j m:BT} (o:mS n L) (u:Row C A B (.node h j .nil)) (t:Row C A B m) (p: ∀y,y ∉ L->C y=d y/\A y=a y/\B y=f y)
  (l:Ord (Le D S I) (.node h j .nil)) (q:Ord (Le D S I) m) (k:((BT.node h j .nil).ai++m.ai).Perm L) (r:aH wr b g n e c D S I C A B T) (s:aW b g w wr):
  PI w b g n e c D S I T L d a f (wr.setCell (af g (h*7+5)) (ab m.root)) .nil (.node h j m):=by
 have i:=k.nodup_iff.2 o.nd
 have v:h∈L:=k.mem_iff.1 (by simp[BT.ai])
 obtain⟨z,F,x,_⟩:=u
 refine⟨⟨_,_,_,r.gd h (o.le h v).2 m.root,trivial,Jt z x t ?_ ?_,fun y E=> ?_⟩,trivial,⟨l.1,l.2.1,q⟩,?_,s.set _ _ (Or.inr rfl)⟩
 ·simp only[BT.ai,List.append_nil,List.cons_append,yV0,List.mem_append,not_or] at i;grind
 ·simp only[BT.ai,List.append_nil,List.cons_append,yV0,List.mem_append,not_or] at i;grind
 ·grind[ay]
 ·simpa [BT.ai] using k
end
attribute [local go_sem ↓] Go.wp_at_zero Go.wp_at_succ
def PM (W:Nat) (t m:BT):Prop:=W<=t.wide+2*m.wide/\1<=W/\(t.wide+2*m.wide<=W\/(t= .nil/\3<=W/\2*m.wide<=W+1))
def PI.turn {w:World} {b g n a c:Nat} {D S I d f e:Nat->Nat} {T:Nat->Bool} {L:List Nat} {wr:World} {m:BT} (h:PI w b g n a c D S I T L d f e wr .nil m):PI w b g n a c D S I T L d f e wr m .nil:=by
 exact mK
section
variable {w:World} {b g n rt ct:Nat} {D S I C A B:Nat->Nat} {T:Nat->Bool}
def xo (t0:BT) (L:List Nat) (hL:mS n L) (a6:B 0=0) (h0:PI w b g n rt ct D S I T L C A B w t0 .nil):
  aB 236 #[ak b,ab t0.root] w fun e w'=> ∃t:BT,t.wide<=1/\e= .returned (ab t.root)/\PI w b g n rt ct D S I T L C A B w' t .nil:=by
 have HL:=aa hL
 have b7:=aa a6
 have H0:=aa h0
 clear h0 hL a6
 refine ge ?_
 go_wp2
 go_step3
 go_wp2
 go_step3
 go_wp2
 go_loopw [1] (fun i wr=> ∃t:BT,i=ab t.root/\Hid (PI w b g n rt ct D S I T L C A B wr t .nil)) (fun i wr=>chain wr g L.length (intOf i).toNat)
 case atStart=>grind
 case round=>
  obtain⟨t,rfl,ht⟩:=hrel
  cases t with
  |nil=>
   have HN:Hid ((BT.nil).root=0):=aa rfl
   have hz:(((BT.nil).root:Nat):Int)=0:=rfl
   rw[hz]
   go_wp2
   rw[Exit.noGoto_ret]
   go_ret
   exact⟨.nil,x_,rfl,ht.out⟩
  |node a ca x=>
   have ha:=HL.out.le a (ht.out.pm.mem_iff.1 (by simp[BT.ai]))
   have c4: ¬(a:Int)=0:=z_
   have R:(((BT.node a ca x).root:Nat):Int)=(a:Int):=rfl
   have HW:=aa (ht.out.chain HL.out)
   have b1:((a:Int) !=0)=true:=y_
   rw[R]
   go_wp2
   clear b1
   go_loopw [1,5] (fun i k Q=> ∃t m:BT,i=ab t.root/\k=ab m.root/\Hid (PI w b g n rt ct D S I T L C A B Q t m)/\Hid (PM (BT.node a ca x).wide t m)) (fun i _ Q=>chain Q g L.length (intOf i).toNat)
   case atStart=>exact⟨.node a ca x,.nil,rfl,rfl,ht,by refine⟨?_,?_,.inl ?_⟩<;>simp[BT.wide]⟩
   case round=>
    obtain⟨t,m,rfl,rfl,j,hc⟩:=hrel
    cases t with
    |nil=>
     have hz:(((BT.nil).root:Nat):Int)=0:=rfl
     rw[hz]
     go_wp2
     have a2:=j.out.turn
     refine⟨⟨m,rfl,a2⟩,?_⟩
     have F:(intOf (Value.int IntKind.i64 (m.root:Int))).toNat=m.root:=by rfl
     have P:(intOf (Value.int IntKind.i64 (a:Int))).toNat=(BT.node a ca x).root:=by rfl
     rw[F,P,HW.out,a2.chain HL.out]
     obtain⟨q1,q2,G⟩:=hc.out
     omega
    |node r W N=>
     have H:=HL.out.le r (j.out.pm.mem_iff.1 (by simp[BT.ai]))
     have c0: ¬(r:Int)=0:=z_
     have M:(((BT.node r W N).root:Nat):Int)=(r:Int):=rfl
     have HM:=aa (j.out.chain HL.out)
     obtain⟨Y,A1,B1,hR,p,a1,O⟩:=j.out.lk
     obtain⟨cp,e0⟩:=hR.sl
     have F:=hR.nb r H.2
     have P:=p.2.1
     rw[P] at F
     have rl:r<n+1:=z_
     have fg:=hR.fg
     have HR:=aa hR
     have f:=aa p
     have a7:=aa a1
     have l:=aa O
     clear hR p a1 O P
     rw[M]
     cases N with
     |nil=>
      have b2:wr.cell? (af g (r*7+5))=some (ab 0):=F
      clear F
      cases m with
      |nil=>
       have hz:(((BT.nil).root:Nat):Int)=0:=rfl
       rw[hz]
       go_wp2
       go_quiet (fail)
       go_wp2
       show Exit.noGoto _ Exit.ret _ _
       rw[Exit.noGoto_ret]
       go_ret
       exact⟨.node r W .nil,by simp[BT.wide],rfl,⟨⟨Y,A1,B1,HR.out.drewN _,f.out,trivial,l.out⟩,j.out.o1,trivial,j.out.pm,j.out.on.drewN _⟩⟩
      |node X mc mx=>
       have c1:=HL.out.le X (j.out.pm.mem_iff.1 (by simp[BT.ai]))
       have c2: ¬(X:Int)=0:=z_
       have J:(((BT.node X mc mx).root:Nat):Int)=(X:Int):=rfl
       have z1:wr.cell? (af g (0*7+5))=some (ab 0):=by
        have:=HR.out.nb 0 (Nat.zero_le _)
        rw[((l.out 0 (fun hh=>by have:=(HL.out.le 0 hh).1;omega)).2.2).trans b7.out] at this
        omega
       have z2:=z1
       clear z1
       rw[J]
       go_wp2
       go_quiet (fail)
       go_wp2_with (go_at_call 238;refine cS (qH r H.1 _ b) ?_)
       have HS:=aa (GM HL.out f.out a7.out l.out j.out.o1 j.out.o2 j.out.pm (HR.out.drewN nq) (j.out.on.drewN nq))
       go_roundw
       case rel=>
        exact⟨BT.nil,.node r W (.node X mc mx),rfl,rfl,HS,by
         obtain⟨q1,q2,G⟩:=hc.out
         rcases G with G|⟨G,_⟩
         ·simp only[PM,BT.wide] at*
          refine⟨?_,?_,.inr ⟨trivial,?_,?_⟩⟩<;>omega
         ·exact absurd G q_⟩
       case measure=>
        have F:(intOf (Value.int IntKind.i64 (r:Int))).toNat=(BT.node r W .nil).root:=by rfl
        have P:(intOf (Value.int IntKind.i64 0)).toNat=(BT.nil).root:=by rfl
        have hs:=HS.out.chain HL.out
        have hm:=HM.out
        rw[<-P] at hs
        rw[<-F] at hm
        show chain _ g L.length (intOf (Value.int IntKind.i64 0)).toNat<chain wr g L.length (intOf (Value.int IntKind.i64 (r:Int))).toNat
        have a8:chain ((wr.drewN nq).setCell (af g (r*7+5)) (Value.int IntKind.i64 (X:Int))) g L.length (intOf (Value.int IntKind.i64 0)).toNat=_:=hs
        rw[a8,hm]
        simp[BT.wide]
     |node r2 V d=>
      have U:=HL.out.le r2 (j.out.pm.mem_iff.1 (by simp[BT.ai]))
      have b8: ¬(r2:Int)=0:=z_
      have b9:r2<n+1:=z_
      have b2:wr.cell? (af g (r*7+5))=some (ab r2):=F
      have e3:=HR.out.nb r2 U.2
      have e4:=f.out.2.2.2.2.1
      rw[e4] at e3
      clear F e4
      have o: ∀(c:BT),(∀y∈c.ai,y∈L)->c.root<=n:=fun c h=>by
       cases c with
       |nil=>exact Nat.zero_le _
       |node s _ _=>exact(HL.out.le s (h s (by simp[BT.ai]))).2
      have a4:=j.out.pm.nodup_iff.2 HL.out.nd
      have a9: ∀(c:BT) (q:Nat),q ∉ c.ai->q≠0->c.root≠q:=fun c q h h0 e=>by
       cases c with
       |nil=>exact h0 e.symm
       |node s _ _=>rw[BT.root] at e;exact h (by simp[BT.ai,e])
      have E:=fun y (hy:y∈(BT.node r W (.node r2 V d)).ai)=>j.out.pm.mem_iff.1 (List.mem_append.2 (.inl hy))
      have k1:Y r<=n:=by rw[f.out.1];exact o W (fun y hy=>E y (by simp[BT.ai,hy]))
      have k2:Y r2<=n:=by rw[f.out.2.2.2.1];exact o V (fun y hy=>E y (by simp[BT.ai,hy]))
      have Z:=(List.nodup_append.1 a4).1
      simp only[BT.ai,yV0,List.nodup_append,List.mem_cons,List.mem_append,not_or] at Z
      have k3:Y r≠r2:=by rw[f.out.1];grind
      have k4:Y r2≠r:=by rw[f.out.2.2.2.1];grind
      have HJ:=aa fun w1 (hh:aH w1 b g n rt ct D S I Y A1 B1 T)=>uU hh r r2 H.1 H.2 U.1 U.2 k1 k2 k3 k4
      clear k1 k2 k3 k4 Z a9 o E a4
      go_wp2
      go_quiet (fail)
      go_wp2_with (go_at_call 238;refine(HJ.out _ (HR.out.drewN nq)).mono ?_;rintro e w3 ⟨u,v,a0,o,rfl,z,a3⟩;obtain⟨c8,c7⟩:=z.sl;have c5:=z.fg;have ul:u<n+1:=z_;have c6:=z.nb u z_;have b4:=aa z;have b5:=aa a3;have b3:=aa a0;have b6:=aa o;clear z a3 a0 o)
      have HS:=aa (Ew HL.out f.out a7.out l.out j.out.o1 j.out.o2 j.out.pm b3.out b6.out b4.out ((j.out.on.drewN nq).trans b5.out))
      obtain⟨m',b0,c3,a5⟩:=HS.out
      go_roundw
      case rel=>
       exact⟨d,m',rfl,by rw[b0],a5,by
        obtain⟨q1,q2,G⟩:=hc.out
        rcases G with G|⟨G,_⟩
        ·simp only[PM,BT.wide] at*
         refine⟨?_,?_,.inl ?_⟩<;>omega
        ·exact absurd G q_⟩
      case measure=>
       have F:(intOf (Value.int IntKind.i64 (r:Int))).toNat=(BT.node r W (.node r2 V d)).root:=by rfl
       have P:(intOf (Value.int IntKind.i64 (d.root:Int))).toNat=d.root:=by rfl
       have hs:=a5.chain HL.out
       have hm:=HM.out
       rw[<-P] at hs
       rw[<-F] at hm
       show chain (w3.setCell (af g (u*7+5)) (Value.int IntKind.i64 (m.root:Int))) g L.length (intOf (Value.int IntKind.i64 (d.root:Int))).toNat<chain wr g L.length (intOf (Value.int IntKind.i64 (r:Int))).toNat
       rw[hs,hm]
       simp only[BT.wide]
       omega
end
end Go.Proofs.YtnmhcgpnhlhcgaaGreatDoor.Ph
namespace Go.Proofs.YtnmhcgpnhlhcgaaGreatDoor.Ph
def jg {C A B:Nat->Nat} {le:Nat->Nat->Prop} (x:Nat): ∀(t:BT) (p:Nat),bQ C A B p t->t.ai.Nodup->x∈t.ai->
  ∃b:BT,C x=b.root/\bQ C A B x b/\((t.cut x).ai++x::b.ai).Perm t.ai/\(Ord le t->Ord le b)
 | .nil,_,_,_,h=>by simp[BT.ai] at h
 | .node r c y,p,w,n,a=>by
  obtain⟨H,F,G,s,E⟩:=w
  simp only[BT.ai,yV0,List.mem_cons,List.mem_append,not_or,List.nodup_append] at n a
  obtain⟨⟨j,i⟩,D,v,z⟩:=n
  rcases a with rfl|a|a
  ·refine⟨c,F,s,?_,fun o=>o.2.1⟩
   rw[BT.cut,if_pos rfl,List.perm_iff_count]
   grind[Ph.BT.ai]
  ·have d:r≠x:=fun e=>j (e▸a)
   have f:x ∉ y.ai:=fun q=>y_
   obtain⟨b,m,l,u,k⟩:=jg x c r s D a
   refine⟨b,m,l,?_,fun o=>k o.2.1⟩
   rw[BT.cut,if_neg d,j6 x y f]
   grind[Ph.BT.ai]
  ·have d:r≠x:=fun e=>i (e▸a)
   have g:x ∉ c.ai:=fun q=>y_
   obtain⟨b,m,l,u,k⟩:=jg x y r E v a
   refine⟨b,m,l,?_,fun o=>k o.2.2⟩
   rw[BT.cut,if_neg d,j6 x c g]
   grind[Ph.BT.ai]
def iG {C A B:Nat->Nat} (s:Nat): ∀(t:BT) (p:Nat),bQ C A B p t->t.ai.Nodup->s∈t.ai->
  (A s=p\/A s∈(t.cut s).ai)/\(B s=0\/B s∈(t.cut s).ai)
 | .nil,_,_,_,h=>by simp[BT.ai] at h
 | .node r c y,p,l,j,d=>by
  obtain⟨v,x,u,q,o⟩:=l
  simp only[BT.ai,yV0,List.mem_cons,List.mem_append,not_or,List.nodup_append] at j d
  obtain⟨⟨i,g⟩,n,k,m⟩:=j
  rcases d with rfl|d|d
  ·refine⟨.inl v,?_⟩
   rw[BT.cut,if_pos rfl,u]
   cases y with
   |nil=>decide
   |node z D w=>grind[Ph.BT.root,Ph.BT.ai]
  ·have f:r≠s:=fun e=>i (e▸d)
   obtain⟨a,b⟩:=iG s c r q n d
   rw[BT.cut,if_neg f]
   grind[Ph.BT.ai]
  ·have f:r≠s:=fun e=>g (e▸d)
   obtain⟨a,b⟩:=iG s y r o k d
   rw[BT.cut,if_neg f]
   grind[Ph.BT.ai]
def CC {C A B d f e:Nat->Nat} {p x:Nat} {c:BT} {L:List Nat} (o:bQ C A B p c) (W:C p=c.root) (H:B p=0) (v:(p::c.ai).Nodup) (X: ∀y∈p::c.ai,y≠0) (m:x∈c.ai)
  (h:((c.cut x).ai++x::L).Perm c.ai) (g: ∀y,y ∉ L->d y=C y/\f y=A y/\e y=B y):
  Row (og d f e x) (oO d f e x) (lL d f e x) (.node p (c.cut x) .nil)/\ ∀y,y∈L->og d f e x y=d y/\oO d f e x y=f y/\lL d f e x y=e y:=by
 have n:=(yV0.1 v).2
 have r:=(yV0.1 v).1
 have t:=h.nodup_iff.2 n
 have E: ∀y∈L,y∈c.ai:=fun y i=>y_
 have q: ∀y∈(c.cut x).ai,y ∉ L:=fun y i w=>y_
 have l:=(yV0.1 (List.nodup_append.1 t).2.1).1
 have s:p ∉ L:=fun w=>r (E p w)
 have P:0 ∉ L:=fun w=>y_
 obtain⟨M,J⟩:=kZ c p x o v y_ m
 obtain⟨a,b⟩:=iG x c p o n m
 have D:A x ∉ L:=by
  grind
 have O:B x ∉ L:=by
  grind
 have R:=(g x l).2.1
 have Q:=(g x l).2.2
 have eC:=(g _ D).1
 have k: ∀y,y ∉ L->og d f e x y=og C A B x y/\oO d f e x y=oO C A B x y/\lL d f e x y=lL C A B x y:=by
  intro y i
  obtain⟨V,U,T⟩:=g y i
  simp only[og,oO,lL,R,Q,eC]
  grind[ay]
 have N:=bd (c.cut x) p (fun y i=>k y (q y i)) M
 have F:=k p s
 have u:=(dN c p x o m).1
 refine⟨⟨?_,?_,N,trivial⟩,fun y i=>⟨?_,?_,?_⟩⟩
 ·rw[F.1]
  by_cases j:x=c.root
  ·have G:A x=p:=by
    cases c with
    |nil=>simp[BT.ai] at m
    |node z S I=>rw[BT.root] at j;rw[j];exact o.1
   rw[og,if_pos y_,G,aE,J j]
  grind[Ph.ij,Ph.qE]
 ·rw[F.2.2]
  by_cases j:x=c.root
  ·have G:A x=p:=by
    cases c with
    |nil=>simp[BT.ai] at m
    |node z S I=>rw[BT.root] at j;rw[j];exact o.1
   rw[lL,if_pos y_];exact H
  ·rw[gi]
   ·exact H
   grind
 ·exact ij y_
 ·grind[Ph.ja]
 ·exact gi y_
open Go.RowKit
attribute [local go_sem ↓] Go.wp_at_zero Go.wp_at_succ
section
variable {w:World} {b g n rt ct:Nat} {D S I C A B:Nat->Nat} {T:Nat->Bool}
def yd (h:aH w b g n rt (ct+1) D S I C A B T) (x:Nat) (o:x=rt) (a:x<=n) (q:ct<=1024) (Q:Nat->(Nat->Nat)->(Nat->Nat)->(Nat->Nat)->Prop)
  (m:aB 236 #[ak b,ab (C x:Int)] w fun e i=> ∃(r:Nat) (d f B1:Nat->Nat),e= .returned (ab r)/\aH i b g n rt (ct+1) D S I d f B1 T/\aW b g w i/\Q r d f B1):
  aB 224 #[ak b,ab x] w fun e i=> ∃(r:Nat) (d f B1:Nat->Nat),e=aS #[]/\aH i b g n r ct (ay D x 0) (ay S x 0) (ay I x 0) (ay d x 0) (ay f x 0) (ay B1 x 0) (ay T x false)/\aW b g w i/\Q r d f B1:=by
 subst o
 obtain⟨X,W⟩:=h.sl
 have Y:=h.nc x a
 have z:x<n+1:=z_
 have j:=h.bg
 have p:g≠b:=fun e=>j e.symm
 have v:=aa m
 clear h m
 refine ge ?_
 go_wp2_with (go_at_call 236;refine(v.out).mono ?_;rintro e E ⟨r,d,f,B1,rfl,c,l,k⟩;obtain⟨s,V⟩:=c.sl;have G:=c.rt;have F:=c.ct;have P:=c.nd x a;have O:=c.ns x a;have N:=c.ni x a;have M:=c.nc x a;have L:=c.na x a;have J:=c.nb x a;have H:=c.nt x a;have U:=c.fb;have R:=c.fg;have t:=aa c;have y:=aa l;have u:=aa k;clear c l k)
 go_end0
 refine⟨r,d,f,B1,rfl,((sk (t.out.jz r) x a).xA ct),?_,u.out⟩
 exact(((((((((y.out.set (af b 1) _ (Or.inl rfl)).set (af g (x*7)) _ (Or.inr rfl)).set (af g (x*7+1)) _ (Or.inr rfl)).set (af g (x*7+2)) _ (Or.inr rfl)).set (af g (x*7+3)) _ (Or.inr rfl)).set (af g (x*7+4)) _ (Or.inr rfl)).set (af g (x*7+5)) _ (Or.inr rfl)).set (af g (x*7+6)) _ (Or.inr rfl)).set (af b 2) _ (Or.inl rfl))
def vh (h:aH w b g n rt (ct+1) D S I C A B T) (x:Nat) (hx:x≠rt) (f:x<=n) (U:ct<=1024) (Q N:Nat->(Nat->Nat)->(Nat->Nat)->(Nat->Nat)->Prop)
  (L:aB 236 #[ak b,ab (C x:Int)] w fun e i=> ∃(r:Nat) (d c B1:Nat->Nat),e= .returned (ab r)/\aH i b g n rt (ct+1) D S I d c B1 T/\aW b g w i/\Q r d c B1)
  (V: ∀(r:Nat) (d c B1:Nat->Nat),Q r d c B1->c x<=n/\B1 x<=n)
  (M: ∀(o:World) (r:Nat) (d c B1:Nat->Nat),Q r d c B1->aH o b g n rt (ct+1) D S I (og d c B1 x) (oO d c B1 x) (lL d c B1 x) T->aB 238 #[ak b,ab rt,ab r] o fun e i=> ∃(t:Nat) (p s q:Nat->Nat),e= .returned (ab t)/\aH i b g n rt (ct+1) D S I p s q T/\aW b g o i/\N t p s q):
  aB 224 #[ak b,ab x] w fun e i=> ∃(r:Nat) (d c B1:Nat->Nat),e=aS #[]/\aH i b g n r ct (ay D x 0) (ay S x 0) (ay I x 0) (ay d x 0) (ay c x 0) (ay B1 x 0) (ay T x false)/\aW b g w i/\N r d c B1:=by
 obtain⟨cp,e0⟩:=h.sl
 have c1:=h.nc x f
 have xl:x<n+1:=z_
 have xr: ¬(x:Int)=rt:=z_
 have u:=h.bg
 have R:g≠b:=fun e=>u e.symm
 have X:=aa L
 have Y:=aa M
 have Z:Hid (∀(l:World) (r:Nat) (d c B1:Nat->Nat),Q r d c B1->aH l b g n rt (ct+1) D S I d c B1 T->aB 237 #[ak b,ab x] l fun e i=>e=aS #[]/\aH i b g n rt (ct+1) D S I (og d c B1 x) (oO d c B1 x) (lL d c B1 x) T/\aW b g l i):=
  fun l r d c B1 k a=>H4 a x (c x) (B1 x) f y_ y_ rfl rfl
 clear h L V M
 refine ge ?_
 go_wp2_with (first
  |(go_at_call 236;refine(X.out).mono ?_;rintro e l ⟨r,d,c,B1,rfl,a,j,k⟩;have r1:=a.rt;have z:=aa a;have H:=aa j;have m:=aa k;clear a j k)
  |(go_at_call 237;refine(Z.out _ r d c B1 m.out z.out).mono ?_;rintro e o ⟨rfl,a,j⟩;have P:=a.rt;have y:=aa a;have G:=aa (H.out.trans j);clear a j)
  |(go_at_call 238;refine(Y.out _ r d c B1 m.out y.out).mono ?_;rintro e w3 ⟨J,p,s,q,rfl,a,j,k⟩;obtain⟨W,e1⟩:=a.sl;have O:=a.rt;have t:=a.ct;have m0:=a.nd x f;have m1:=a.ns x f;have m2:=a.ni x f;have m3:=a.nc x f;have m4:=a.na x f;have m5:=a.nb x f;have m6:=a.nt x f;have fb:=a.fb;have fg:=a.fg;have v:=aa a;have F:=aa (G.out.trans j);have E:=aa k;clear a j k))
 go_end0
 refine⟨J,p,s,q,rfl,((sk (v.out.jz J) x f).xA ct),?_,E.out⟩
 exact(((((((((F.out.set (af b 1) _ (Or.inl rfl)).set (af g (x*7)) _ (Or.inr rfl)).set (af g (x*7+1)) _ (Or.inr rfl)).set (af g (x*7+2)) _ (Or.inr rfl)).set (af g (x*7+3)) _ (Or.inr rfl)).set (af g (x*7+4)) _ (Or.inr rfl)).set (af g (x*7+5)) _ (Or.inr rfl)).set (af g (x*7+6)) _ (Or.inr rfl)).set (af b 2) _ (Or.inl rfl))
end
end Go.Proofs.YtnmhcgpnhlhcgaaGreatDoor.Ph
namespace Go.Proofs.YtnmhcgpnhlhcgaaGreatDoor.Ph
open Go.RowKit
structure dS (w:World) (b g n:Nat) (D S I:Nat->Nat) (T:Nat->Bool) (t:BT):Prop where
 lk: ∃C A B,aH w b g n t.root t.ai.length D S I C A B T/\Row C A B t/\B 0=0
 wd:t.wide<=1
 od:Ord (Le D S I) t
 sp:mS n t.ai
 th: ∀y,y<=n->(T y=true↔y∈t.ai)
 id: ∀y∈t.ai,I y+1=y
def kC {g b:Nat->Nat->Prop}: ∀t:BT,(∀a∈t.ai,∀c∈t.ai,g a c->b a c)->Ord g t->Ord b t
 | .nil,_,_=>trivial
 | .node s c x,h,⟨l,k,j⟩=>
  ⟨fun y i=>h s (by simp[BT.ai]) y (by simp[BT.ai,i]) (l y i),kC c (fun a f d e=>h a (by simp[BT.ai,f]) d (by simp[BT.ai,e])) k,kC x (fun a f d e=>h a (by simp[BT.ai,f]) d (by simp[BT.ai,e])) j⟩
def Du {D S I:Nat->Nat} {x a c:Nat} {d s i:Nat} (e:a≠x) (b:c≠x) (h:Le D S I a c):Le (ay D x d) (ay S x s) (ay I x i) a c:=by
 rw[Le] at*
 grind[ay]
section
variable {w:World} {b g n:Nat} {D S I:Nat->Nat} {T:Nat->Bool} {t:BT}
theorem qi {o:World} {x ct:Nat} {t':BT} {C A B:Nat->Nat} (h:dS w b g n D S I T t) (r:x∈t.ai) (p:(x::t'.ai).Perm t.ai) (hw:t'.wide<=1) (u:Row C A B t') (v:Ord (Le D S I) t') (J:B 0=0) (E:t.ai.length=ct+1)
  (H:aH o b g n t'.root ct (ay D x 0) (ay S x 0) (ay I x 0) (ay C x 0) (ay A x 0) (ay B x 0) (ay T x false)):
  dS o b g n (ay D x 0) (ay S x 0) (ay I x 0) (ay T x false) t':=by
 have k:=p.nodup_iff.2 h.sp.nd
 have j:=(yV0.1 k).1
 have d: ∀y∈t'.ai,y≠x:=fun y f e=>j (e▸f)
 have m: ∀y∈t'.ai,y∈t.ai:=fun y f=>y_
 have z:t'.ai.length=ct:=by have:=p.length_eq;grind
 have q:(0:Nat)≠x:=by have:=(h.sp.le x r).1;omega
 refine⟨⟨_,_,_,z.symm▸H,fH t' (fun s i=>⟨aq _ _ _ _ (d s i),aq _ _ _ _ (d s i),aq _ _ _ _ (d s i)⟩) u,by grind[ay]⟩,hw,kC t' (fun a G c F l=>Du (d a G) (d c F) l) v,⟨y_,fun y f=>h.sp.le y (m y f)⟩,fun y f=> ?_,fun y f=>by grind[aq,Ph.dS.id]⟩
 by_cases e:y=x
 ·grind[ay]
 ·exact mK
theorem tG {rt:Nat} {c:BT} (h:dS w b g n D S I T (.node rt c .nil)) (k:c.ai.length<=1024):
  aB 224 #[ak b,ab rt] w fun e w'=> ∃a:BT,e=aS #[]/\(rt::a.ai).Perm (BT.node rt c .nil).ai/\dS w' b g n (ay D rt 0) (ay S rt 0) (ay I rt 0) (ay T rt false) a/\aW b g w w':=by
 obtain⟨C,A,B,q,f,v⟩:=h.lk
 have i:(BT.node rt c .nil).ai.length=c.ai.length+1:=by simp[BT.ai]
 rw[i] at q
 have p:=h.sp.le rt (by exact mK)
 have j:mS n c.ai:=⟨by have:=h.sp.nd;grind[Ph.BT.ai],fun y F=>h.sp.le y (by simp[BT.ai,F])⟩
 have d:=xo (w:=w) (b:=b) (g:=g) (rt:=rt) (ct:=c.ai.length+1) (D:=D) (S:=S) (I:=I) (C:=C) (A:=A) (B:=B) (T:=T) c c.ai j v
  ⟨⟨C,A,B,q,lA c rt f.2.2.1,trivial,fun _ _=>y_⟩,h.od.2.1,trivial,by simp[BT.ai],aW.refl _ _ _⟩
 rw[<-f.1] at d
 have o:=yd q rt rfl p.2 k (fun r s u m=> ∃a:BT,r=a.root/\a.wide<=1/\Row s u m a/\Ord (Le D S I) a/\a.ai.Perm c.ai/\m 0=0) (d.mono (by
  rintro e w' ⟨a,hw,H,l⟩
  obtain⟨s,u,m,E,z,_,x⟩:=l.lk
  exact⟨a.root,s,u,m,H,E,l.on,a,rfl,hw,z,l.o1,by simpa [BT.ai] using l.pm,(x 0 (fun G=>by have:=(j.le 0 G).1;omega)).2.2.trans v⟩))
 refine o.mono ?_
 grind[Ph.BT.ai,Ph.qi]
end
section
variable {w:World} {b g n:Nat} {D S I:Nat->Nat} {T:Nat->Bool}
def lT {C A B:Nat->Nat} {p q:Nat} {cp cq:BT} (c:Row C A B (.node p cp .nil)) (d:Row C A B (.node q cq .nil)) (f:(p::q::(cq.ai++cp.ai)).Nodup) (h: ∀s∈cp.ai,s≠0):
  Row (GG C p q) (Hh C A p q) (yn C B p q) (.node p (.node q cq cp) .nil):=by
 have a:p≠q:=fun e=>y_
 exact⟨by rw[GG,aE];rfl,by rw[yn,aq _ _ _ _ a];exact c.2.1,ot c.1 c.2.2.1 d.1 d.2.2.1 f h,trivial⟩
theorem sZ {rt x:Nat} {c:BT} (h:dS w b g n D S I T (.node rt c .nil)) (hx:x∈c.ai) (a1:c.ai.length<=1024):
  aB 224 #[ak b,ab x] w fun e w'=> ∃i:BT,e=aS #[]/\(x::i.ai).Perm (BT.node rt c .nil).ai/\dS w' b g n (ay D x 0) (ay S x 0) (ay I x 0) (ay T x false) i/\aW b g w w':=by
 obtain⟨C,A,B,hR,Y,hB⟩:=h.lk
 have l:(BT.node rt c .nil).ai.length=c.ai.length+1:=by simp[BT.ai]
 rw[l] at hR
 have E:(rt::c.ai).Nodup:=by have:=h.sp.nd;simpa [BT.ai] using this
 have m: ∀y∈rt::c.ai,1<=y/\y<=n:=fun y p=>h.sp.le y (by simpa [BT.ai] using p)
 have b1:=(yV0.1 E).1
 have a8:x≠rt:=fun e=>b1 (e▸hx)
 obtain⟨hC,b6,hl,_⟩:=Y
 obtain⟨J,k1,k2,k3,k4⟩:=jg (le:=Le D S I) x c rt hl y_ hx
 have c0: ∀y∈J.ai,y∈c.ai:=fun y p=>y_
 have b4:=k3.nodup_iff.2 (yV0.1 E).2
 have a7:=(yV0.1 (List.nodup_append.1 b4).2.1).1
 have b0:mS n J.ai:=⟨y_,fun y p=>mK⟩
 have k:=xo (w:=w) (b:=b) (g:=g) (rt:=rt) (ct:=c.ai.length+1) (D:=D) (S:=S) (I:=I) (C:=C) (A:=A) (B:=B) (T:=T) J J.ai b0 hB
  ⟨⟨C,A,B,hR,lA J x k2,trivial,fun _ _=>⟨rfl,rfl,rfl⟩⟩,k4 h.od.2.1,trivial,by simp[BT.ai],aW.refl _ _ _⟩
 rw[<-k1] at k
 have b7:0 ∉ J.ai:=fun hh=>by grind
 have a6:=vh hR x a8 y_ a1
  (fun r R V U=> ∃o:BT,r=o.root/\o.wide<=1/\Row R V U o/\Ord (Le D S I) o/\o.ai.Perm J.ai/\ ∀y,y ∉ J.ai->R y=C y/\V y=A y/\U y=B y)
  (fun r C2 A2 B2=> ∃i:BT,r=i.root/\i.wide<=1/\Row C2 A2 B2 i/\Ord (Le D S I) i/\(x::i.ai).Perm (rt::c.ai)/\B2 0=0)
  (k.mono (by
   rintro e w' ⟨i,hw,G,O⟩
   obtain⟨R,V,U,q1,q2,_,q4⟩:=O.lk
   exact⟨i.root,R,V,U,G,q1,O.on,i,rfl,hw,q2,O.o1,by simpa [BT.ai] using O.pm,q4⟩))
  (by
   rintro r R V U ⟨o,_,_,_,_,_,t⟩
   obtain⟨a,d⟩:=dN c rt x hl hx
   grind)
  (by
   rintro w2 r R V U ⟨o,rfl,hw,b2,z,b3,t⟩ a3
   obtain⟨W,z2⟩:=CC hl hC b6 E y_ hx k3 t
   have j:=fH o (fun y p=>z2 y (b3.mem_iff.1 p)) b2
   have f:=tj x c h.od.2.1
   have P: ∀y∈(c.cut x).ai,Le D S I rt y:=fun y p=>h.od.1 y (kA x c y p)
   have Q:lL R V U x 0=0:=by
    rw[gi,(t 0 b7).2.2,hB]
    rw[(t x a7).2.1]
    grind[Ph.dN]
   have H: ∀y,List.count y ((c.cut x).ai++x::o.ai)=List.count y c.ai:=fun y=>by
    grind
   cases o with
   |nil=>
    refine(qH rt (m rt q_).1 w2 b).mono ?_
    rintro e w3 ⟨G,rfl⟩
    refine⟨rt,_,_,_,G,a3,aW.refl _ _ _,.node rt (c.cut x) .nil,rfl,by simp[BT.wide],W,⟨P,f,trivial⟩,?_,Q⟩
    rw[List.perm_iff_count]
    grind[Ph.BT.ai]
   |node q L xq=>
    cases xq with
    |node _ _ _=>simp[BT.wide] at hw
    |nil=>
     have N: ∀y∈(BT.node q L .nil).ai,y∈c.ai:=fun y p=>y_
     have hq:=m q (List.mem_cons_of_mem _ (N q (by simp[BT.ai])))
     have X:=m rt q_
     have b5:(rt::q::(L.ai++(c.cut x).ai)).Nodup:=by
      have b9:(x::rt::q::(L.ai++(c.cut x).ai)).Nodup:=by
       refine(List.Perm.nodup_iff ?_).2 E
       rw[List.perm_iff_count]
       grind[Ph.BT.ai]
      grind
     have a0:(q::rt::((c.cut x).ai++L.ai)).Nodup:=by
      grind
     have M: ∀(d:BT),(∀y∈d.ai,y∈c.ai)->d.root<=n:=fun d hd=>by
      cases d with
      |nil=>exact Nat.zero_le _
      |node s _ _=>exact(m s (List.mem_cons_of_mem _ (hd s (by simp[BT.ai])))).2
     have b8: ∀(d:BT) (v:Nat),v ∉ d.ai->v≠0->d.root≠v:=fun d v hv h0 e=>by
      cases d with
      |nil=>exact h0 e.symm
      |node s _ _=>grind[Ph.BT.root,Ph.BT.ai]
     have y1:q ∉ (c.cut x).ai:=fun hh=>y_
     have y2:rt ∉ L.ai:=fun hh=>y_
     refine(uU a3 rt q X.1 X.2 hq.1 hq.2 (by rw[W.1];grind) (by rw[j.1];exact M _ (fun y p=>N y (by simp[BT.ai,p]))) (by rw[W.1];grind) (by rw[j.1];grind)).mono ?_
     rintro e w3 ⟨u,v,a9,F,G,a2,Z⟩
     have a5: ∀s∈(c.cut x).ai,s≠0:=fun s hs=>by grind
     have a4: ∀s∈L.ai,s≠0:=fun s hs=>by have:=(m s (List.mem_cons_of_mem _ (N s (by simp[BT.ai,hs])))).1;omega
     rcases a9 with ⟨rfl,rfl⟩|⟨rfl,rfl⟩
     ·obtain⟨j1,j2⟩:=jT le_trans F P z.1 f z.2.1
      refine⟨u,_,_,_,G,a2,Z,.node u (.node v L (c.cut x)) .nil,rfl,by assumption,lT W j b5 a5,⟨j1,j2,trivial⟩,?_,?_⟩
      ·rw[List.perm_iff_count]
       intro y
       have:=H y
       simp only[BT.ai,List.count_append,List.count_cons,List.append_nil] at this|-
       omega
      ·rw[yn,aq _ _ _ _ z_];exact Q
     ·obtain⟨j1,j2⟩:=jT le_trans F z.1 P z.2.1 f
      refine⟨u,_,_,_,G,a2,Z,.node u (.node v (c.cut x) L) .nil,rfl,by assumption,lT j W a0 a4,⟨j1,j2,trivial⟩,?_,?_⟩
      ·rw[List.perm_iff_count]
       intro y
       have:=H y
       simp only[BT.ai,List.count_append,List.count_cons,List.append_nil] at this|-
       omega
      ·rw[yn,aq _ _ _ _ z_];exact Q)
 refine a6.mono ?_
 rintro e w' ⟨r,C2,A2,B2,G,m1,m2,i,rfl,q1,q2,q3,q4,q5⟩
 have O:(x::i.ai).Perm (BT.node rt c .nil).ai:=by simpa [BT.ai] using q4
 exact⟨i,G,O,qi h y_ O q1 q2 q3 q5 l m1,m2⟩
end
section
variable {w:World} {b g n:Nat} {D S I:Nat->Nat} {T:Nat->Bool} {t:BT}
def pw {e:World} {x d s i:Nat} {t':BT} {C A B:Nat->Nat} (h:dS w b g n D S I T t) (j:x ∉ t.ai) (f:x<=n) (hi:i+1=x) (c:t'.ai.Perm (x::t.ai)) (hw:t'.wide<=1) (l:Row C A B t') (k:Ord (Le (ay D x d) (ay S x s) (ay I x i)) t') (p:B 0=0)
  (o:aH e b g n t'.root (t.ai.length+1) (ay D x d) (ay S x s) (ay I x i) C A B (ay T x true)):
  dS e b g n (ay D x d) (ay S x s) (ay I x i) (ay T x true) t':=by
 have m:t'.ai.length=t.ai.length+1:=by have:=c.length_eq;omega
 refine⟨y_,hw,k,⟨c.nodup_iff.2 (yV0.2 ⟨j,h.sp.nd⟩),fun y a=> ?_⟩,fun y a=> ?_,fun y a=> ?_⟩
 ·rcases List.mem_cons.1 (c.mem_iff.1 a) with rfl|a
  ·omega
  ·exact h.sp.le y a
 ·exact mK
 ·rcases List.mem_cons.1 (c.mem_iff.1 a) with rfl|a
  ·grind[ay]
  grind[aq,Ph.dS.id]
def JB (h:dS w b g n D S I T t) (f d s:Nat) (u:f<n) (V:n<=1024) (E:t.ai.length<=1024) (hT:T (f+1)=false):
  aB 239 #[ak b,.agg #[aj d,aj s,ab f]] w fun e w'=>e=aS #[]/\ ∃t':BT,t'.ai.Perm ((f+1)::t.ai)/\dS w' b g n (ay D (f+1) d) (ay S (f+1) s) (ay I (f+1) f) (ay T (f+1) true) t'/\aW b g w w':=by
 obtain⟨C,A,B,Z,J,hB⟩:=h.lk
 have F:f+1 ∉ t.ai:=fun X=>by have:=(h.th (f+1) z_).2 X;grind
 have m: ∀y∈t.ai,y≠f+1:=fun y l e=>F (e▸l)
 have j:Row (ay C (f+1) 0) (ay A (f+1) 0) (ay B (f+1) 0) t:=fH t (fun y l=>⟨aq _ _ _ _ (m y l),aq _ _ _ _ (m y l),aq _ _ _ _ (m y l)⟩) J
 have r:Ord (Le (ay D (f+1) d) (ay S (f+1) s) (ay I (f+1) f)) t:=kC t (fun a ha c hc W=>Du (m a ha) (m c hc) W) h.od
 have M:ay B (f+1) 0 0=0:=by assumption
 have p:Row (ay C (f+1) 0) (ay A (f+1) 0) (ay B (f+1) 0) (.node (f+1) .nil .nil):=⟨aE _ _ _,aE _ _ _,trivial,trivial⟩
 have o:((f:Int)+1)=((f+1:Nat):Int):=z_
 cases t with
 |nil=>
  refine(rk Z f d s (f+1) u V E (fun O L=>by
   rw[o]
   refine(Cm (f+1) O b).mono ?_
   rintro e w' ⟨v,rfl⟩
   exact⟨v,L,aW.refl _ _ _⟩)).mono ?_
  rintro e w' ⟨v,H,G⟩
  exact⟨v,.node (f+1) .nil .nil,by simp[BT.ai],pw h F z_ rfl (by simp[BT.ai]) (by simp[BT.wide]) p ⟨fun y l=>absurd l (by simp[BT.ai]),trivial,trivial⟩ M H,G⟩
 |node k c x=>
  cases x with
  |node _ _ _=>have:=h.wd;simp[BT.wide] at this
  |nil=>
   have q:=h.sp.le k (by exact mK)
   have a2:(k::c.ai).Nodup:=by have:=h.sp.nd;simpa [BT.ai] using this
   have a1:=m k (by exact mK)
   have a0:f+1 ∉ c.ai:=fun X=>F (by simp[BT.ai,X])
   have nz: ∀y∈c.ai,y≠0:=fun y l=>by have:=(h.sp.le y (by simp[BT.ai,l])).1;omega
   have R:c.root<=n:=by
    cases c with
    |nil=>exact Nat.zero_le _
    |node z _ _=>exact(h.sp.le z (by simp[BT.ai])).2
   have Y:c.root≠f+1:=by
    cases c with
    |nil=>simp[BT.root]
    |node z _ _=>exact m z (by simp[BT.ai])
   cases N:EL (ay D (f+1) d (f+1)) (ay S (f+1) s (f+1)) (ay I (f+1) f (f+1)) (ay D (f+1) d k) (ay S (f+1) s k) (ay I (f+1) f k) with
   |true=>
    refine(rk Z f d s (f+1) u V E (fun O L=>by
     rw[o]
     exact se L (f+1) k z_ z_ q.1 q.2 (by grind[ay]) (by grind[ay]) N)).mono ?_
    rintro e w' ⟨v,H,G⟩
    have i:(BT.node (f+1) (.node k c .nil) .nil).ai.Perm ((f+1)::(BT.node k c .nil).ai):=by simp[BT.ai]
    obtain⟨Q,P⟩:=jT (cp:= .nil) le_trans (lR N) (fun y l=>absurd l (by simp[BT.ai])) r.1 trivial r.2.1
    exact⟨v,.node (f+1) (.node k c .nil) .nil,i,pw h F z_ rfl i (by simp[BT.wide]) (lT p j (by simpa [BT.ai] using yV0.2 ⟨F,h.sp.nd⟩) (fun y l=>absurd l (by simp[BT.ai]))) ⟨Q,P,trivial⟩ (by rw[yn,aq _ _ _ _ z_];exact M) H,G⟩
   |false=>
    refine(rk Z f d s k u V E (fun O L=>by
     rw[o]
     exact rK L k (f+1) q.1 q.2 z_ z_ (by rw[j.1];omega) (by rw[j.1];exact Y) N)).mono ?_
    rintro e w' ⟨v,H,G⟩
    have i:(BT.node k (.node (f+1) .nil c) .nil).ai.Perm ((f+1)::(BT.node k c .nil).ai):=by
     exact mK
    obtain⟨Q,P⟩:=jT (cq:= .nil) le_trans N r.1 (fun y l=>absurd l (by simp[BT.ai])) r.2.1 trivial
    have U:(k::(f+1)::([]++c.ai)).Nodup:=by
     grind
    exact⟨v,.node k (.node (f+1) .nil c) .nil,i,pw h F z_ rfl i (by simp[BT.wide]) (lT j p U nz) ⟨Q,P,trivial⟩ (by assumption) H,G⟩
end
def ou (n:Nat) (D S:Nat->Nat) (T:Nat->Bool):Prop:= ∀a,a<n->T (a+1)=false->D (a+1)=0/\S (a+1)=0
theorem ou.cut {n x:Nat} {D S:Nat->Nat} {T:Nat->Bool} (h:ou n D S T):ou n (ay D x 0) (ay S x 0) (ay T x false):=by
 intro i hi a
 by_cases e:i+1=x
 ·grind[ay]
 ·rw[aq _ _ _ _ e] at a
  rw[aq _ _ _ _ e,aq _ _ _ _ e];exact h i hi a
theorem ou.put {n x d s:Nat} {D S:Nat->Nat} {T:Nat->Bool} (h:ou n D S T):ou n (ay D x d) (ay S x s) (ay T x true):=by
 intro i hi a
 by_cases e:i+1=x
 ·grind[ay]
 ·rw[aq _ _ _ _ e] at a
  rw[aq _ _ _ _ e,aq _ _ _ _ e];exact h i hi a
def Holds (w:World) (b g n:Nat) (m:Nat->Option (Nat×Nat)) (t:BT):Prop:=
 ∃D S I T,dS w b g n D S I T t/\n<=1024/\(∀a,a<n->m a=if T (a+1) then some (D (a+1),S (a+1)) else none)/\ou n D S T
def dA: ∀{n:Nat} {L:List Nat},mS n L->L.length<=n
 |0,L,h=>by
  cases L with
  |nil=>simp
  |cons y _=>have:=h.le y q_;omega
 |n+1,L,h=>by
  have k:mS n (L.erase (n+1)):=⟨h.nd.erase _,fun y a=>by
   exact mK⟩
  have:=dA k
  grind
section
variable {w:World} {b g n:Nat} {D S I:Nat->Nat} {T:Nat->Bool} {t:BT} {m:Nat->Option (Nat×Nat)}
def zy (h:dS w b g n D S I T t) (i:n<=1024) (x:Nat) (d:x∈t.ai):
  aB 224 #[ak b,ab x] w fun e w'=>e=aS #[]/\ ∃a:BT,(x::a.ai).Perm t.ai/\dS w' b g n (ay D x 0) (ay S x 0) (ay I x 0) (ay T x false) a/\aW b g w w':=by
 have j:=dA h.sp
 cases t with
 |nil=>simp[BT.ai] at d
 |node f c y=>
  cases y with
  |node _ _ _=>have:=h.wd;simp[BT.wide] at this
  |nil=>
   grind[Ph.BT.ai,Ph.tG,Ph.sZ]
def I5 {a:Nat} (c: ∀i,i<n->m i=if T (i+1) then some (D (i+1),S (i+1)) else none): ∀i,i<n->ay m a none i=if ay T (a+1) false (i+1) then some (ay D (a+1) 0 (i+1),ay S (a+1) 0 (i+1)) else none:=by
 grind[ay]
def Od {a d s:Nat} (c: ∀i,i<n->m i=if T (i+1) then some (D (i+1),S (i+1)) else none): ∀i,i<n->ay m a (some (d,s)) i=if ay T (a+1) true (i+1) then some (ay D (a+1) d (i+1),ay S (a+1) s (i+1)) else none:=by
 grind[ay]
def oo {a:Nat} (d: ∀i,i<n->m i=if T (i+1) then some (D (i+1),S (i+1)) else none) (c:a<n):(m a).isSome=T (a+1):=by
 grind
def Ct (h:Holds w b g n m t) (a d s:Nat) (c:a<n) (r:(m a).isSome=false):
  aB 225 #[ak b,ab a,aj d,aj s] w fun e w'=>e= .returned (ab 0)/\ ∃f,f.ai.Perm ((a+1)::t.ai)/\Holds w' b g n (ay m a (some (d,s))) f/\aW b g w w':=by
 obtain⟨D,S,I,T,j,i,l,x⟩:=h
 have k:=(oo l c).symm.trans r
 obtain⟨C,A,B,v,_⟩:=j.lk
 have y:=dA j.sp
 refine wG v a d s i c k _ ((JB j a d s c i z_ k).mono ?_)
 rintro e w' ⟨u,f,p,q,o⟩
 exact⟨u,f,p,⟨_,_,_,_,q,i,Od l,x.put⟩,o⟩
def BP (h:Holds w b g n m t) (a:Nat) (c:a<n) (l:(m a).isSome=true):
  aB 203 #[ak b,ab a] w fun e w'=>e= .returned (ab 0)/\ ∃d,((a+1)::d.ai).Perm t.ai/\Holds w' b g n (ay m a none) d/\aW b g w w':=by
 obtain⟨D,S,I,T,i,f,k,u⟩:=h
 have j:=(oo k c).symm.trans l
 obtain⟨C,A,B,s,_⟩:=i.lk
 refine wk s a f c j _ ((zy i f (a+1) ((i.th (a+1) z_).1 j)).mono ?_)
 rintro e w' ⟨r,d,p,q,o⟩
 exact⟨r,d,p,⟨_,_,_,_,q,f,I5 k,u.cut⟩,o⟩
end
def zO (n:Nat) (m:Nat->Option (Nat×Nat)) (b:Nat):Prop:=
 b<n/\ ∃d s,m b=some (d,s)/\ ∀j c a,j<n->m j=some (c,a)->d<c\/(d=c/\(s<a\/(s=a/\b<=j)))
section
variable {w:World} {b g n:Nat} {D S I:Nat->Nat} {T:Nat->Bool} {t:BT} {m:Nat->Option (Nat×Nat)}
def xS (h:dS w b g n D S I T t) (r: ∀i,i<n->m i=if T (i+1) then some (D (i+1),S (i+1)) else none) (s:t.ai≠[]):I t.root+1=t.root/\t.root∈t.ai/\zO n m (I t.root):=by
 cases t with
 |nil=>exact absurd rfl s
 |node f c y=>
  cases y with
  |node _ _ _=>have:=h.wd;simp[BT.wide] at this
  |nil=>
   have k:=h.id f (by exact mK)
   have p:=h.sp.le f (by exact mK)
   refine⟨k,by exact mK,?_⟩
   show zO n m (I f)
   have l:I f<n:=z_
   have v:T (I f+1)=true:=by rw[k];exact(h.th f p.2).2 (by exact mK)
   have q:=r (I f) l
   rw[v,if_pos rfl] at q
   refine⟨l,_,_,q,fun j C x u a=> ?_⟩
   rw[r j u] at a
   have o:T (j+1)=true:=by
    grind
   rw[o,if_pos rfl] at a
   injection a with a
   injection a with B A
   have d:=(h.th (j+1) z_).1 o
   rw[k]
   simp only[BT.ai,List.append_nil,List.mem_cons] at d
   rcases d with e|d
   ·grind
   ·have z:=le_iff.1 (h.od.1 (j+1) d)
    grind[Ph.dS.id,Ph.BT.ai]
def Mk (h:Holds w b g n m t) (j:t.ai≠[]):
  aB 217 #[ak b] w fun e f=> ∃d:Nat,zO n m d/\e=aS #[ab d,.bool true]/\ ∃q,f=w.drewN q:=by
 obtain⟨D,S,I,T,c,s,l,r⟩:=h
 obtain⟨p,i,o⟩:=xS c l j
 obtain⟨C,A,B,k,_⟩:=c.lk
 have a:=c.sp.le _ i
 refine(GW k a.1 a.2).mono ?_
 grind
end
attribute [local go_sem ↓] Go.wp_at_zero Go.wp_at_succ
section
variable {w:World} {b g n c a:Nat} {D S I C A B:Nat->Nat} {T:Nat->Bool}
def Ha (h:aH w b g n 0 a D S I C A B T):
  vS 217 #[ak b] w (.tuple #[ab 0,.bool false]):=by
 have d:w.cell? (af b 1)=some (ab 0):=h.rt
 clear h
 refine ge ?_
 go_wp2
 go_ret2
 simp
def JG (h:aH w b g n c a D S I C A B T) (e:Nat) (d s:Int) (f:e<n) (j:n<=1024) (i:T (e+1)=true):
  vS 225 #[ak b,ab e,aj d,aj s] w (ab 5):=by
 have l:=aa (dp h e j f)
 obtain⟨o,m⟩:=h.sl
 have k:=h.nt (e+1) z_
 rw[i] at k
 clear h i
 refine ge ?_
 go_wp2_with (go_at_call 222;refine cS l.out ?_)
 go_ret
 simp
theorem vi (h:aH w b g n c a D S I C A B T) (d:Nat) (e:d<n) (i:n<=1024) (f:T (d+1)=false):
  vS 203 #[ak b,ab d] w (ab 6):=by
 have k:=aa (dp h d i e)
 obtain⟨m,l⟩:=h.sl
 have j:=h.nt (d+1) z_
 rw[f] at j
 clear h f
 refine ge ?_
 go_wp2_with (go_at_call 222;refine cS k.out ?_)
 go_ret
 simp
end
end Go.Proofs.YtnmhcgpnhlhcgaaGreatDoor.Ph
namespace Go.Proofs.YtnmhcgpnhlhcgaaGreatDoor.Ph
open Go.RowKit
abbrev Item:=Nat×Nat×Nat
def ah (a b:Item):Prop:=a.2.1<b.2.1\/(a.2.1=b.2.1/\(a.2.2<b.2.2\/(a.2.2=b.2.2/\a.1<b.1)))
instance (a b:Item):Decidable (ah a b):=by unfold ah;exact inferInstance
def DT {a b c:Item} (h:ah a b) (k:ah b c):ah a c:=by unfold ah at*;omega
theorem LO {a b:Item} (h:a.1≠b.1) (k: ¬ah a b):ah b a:=by unfold ah at*;omega
def ins (x:Item):List Item->List Item
 |[]=>[x]
 |y::L=>if ah x y then x::y::L else y::ins x L
def out (b:Nat) (L:List Item):List Item:=L.filter (fun a=>a.1 !=b)
def lB (L:List Item):Prop:=L.Pairwise ah
theorem cQ {x y:Item}: ∀{L:List Item},y∈ins x L↔y=x\/y∈L
 |[]=>by simp[ins]
 |z::L=>by
  rw[ins]
  split
  ·simp
  ·rw[List.mem_cons,cQ (L:=L),List.mem_cons]
   grind
theorem oV {x:Item}: ∀{L:List Item},(ins x L).length=L.length+1
 |[]=>rfl
 |z::L=>by
  rw[ins]
  split
  ·simp
  ·simp[oV (L:=L)]
def Az {x:Item}: ∀{L:List Item},lB L->(∀y∈L,y.1≠x.1)->lB (ins x L)
 |[],_,_=>by simp[lB,ins]
 |z::L,h,b=>by
  unfold lB at h|-
  rw[List.pairwise_cons] at h
  rw[ins]
  split
  ·rename_i hz
   rw[List.pairwise_cons,List.pairwise_cons]
   refine⟨fun y a=> ?_,h⟩
   rcases List.mem_cons.1 a with rfl|a
   ·exact hz
   ·exact DT hz (h.1 y a)
  ·rename_i hz
   rw[List.pairwise_cons]
   refine⟨fun y a=> ?_,Az h.2 y_⟩
   rcases cQ.1 a with rfl|a
   ·grind[Ph.LO]
   ·exact h.1 y a
theorem tF {id:Nat} {y:Item} {L:List Item}:y∈out id L↔y∈L/\y.1≠id:=by simp[out]
def Hs {a:Nat} {L:List Item} (h:lB L):lB (out a L):=List.Pairwise.filter _ h
structure Good (n:Nat) (L:List Item):Prop where
 srt:lB L
 ids:(L.map (·.1)).Nodup
 nN: ∀it∈L,it.1<n
def Good.nil (n:Nat):Good n []:=⟨by simp[lB],q_,q_⟩
def sU {x:Item}: ∀{L:List Item},(L.map (·.1)).Nodup->(∀y∈L,y.1≠x.1)->((ins x L).map (·.1)).Nodup
 |[],_,_=>by simp[ins]
 |z::L,h,b=>by
  rw[ins]
  rw[List.map_cons,yV0] at h
  split
  ·grind
  ·rw[List.map_cons,yV0]
   refine⟨fun q=> ?_,sU h.2 y_⟩
   obtain⟨y,a,e⟩:=List.mem_map.1 q
   rcases cQ.1 a with rfl|a
   ·grind
   grind
theorem Good.ins {n:Nat} {L:List Item} (h:Good n L) {x:Item} (d:x.1<n) (a: ∀y∈L,y.1≠x.1):Good n (ins x L):=
 ⟨Az h.srt a,sU h.ids a,fun c b=>by
  rcases cQ.1 b with rfl|q
  ·exact d
  ·exact h.nN c q⟩
theorem Good.out {n:Nat} {L:List Item} (h:Good n L) (c:Nat):Good n (out c L):=
 ⟨Hs h.srt,(List.Sublist.map _ List.filter_sublist).nodup h.ids,fun b a=>h.nN b (tF.1 a).1⟩
def FZ {a:Nat} {L:List Item} (h: ∀y∈L,y.1≠a):out a L=L:=by
 grind[Ph.out,List.filter_eq_self]
def C9 {n:Nat} {b L2:List Item} {x:Item} (h:Good n (b++x::L2)):out x.1 (b++x::L2)=b++L2:=by
 have a:=h.ids
 rw[List.map_append,List.nodup_append] at a
 simp only[List.map_cons,yV0] at a
 unfold out
 rw[List.filter_append,List.filter_cons_of_neg q_]
 congr 1
 ·rw[List.filter_eq_self]
  intro y c
  simp only[bne_iff_ne,ne_eq]
  exact a.2.2 _ y_ _ q_
 grind[List.filter_eq_self]
def Good.uniq {n:Nat} {L:List Item} (h:Good n L) {x y:Item} (a:x∈L) (c:y∈L) (e:x.1=y.1):x=y:=by
 by_cases d:ah x y
 ·obtain⟨s,t,rfl⟩:=List.append_of_mem a
  have b:=h.ids
  grind
 ·obtain⟨s,t,rfl⟩:=List.append_of_mem a
  have b:=h.ids
  grind
def mZ (w:World) (b g n:Nat) (L:List Item):Prop:=
 Good n L/\ ∃m t,Holds w b g n m t/\L.length=t.ai.length/\ ∀a d s,a<n->(m a=some (d,s)↔(a,d,s)∈L)
section
variable {w:World} {b g n:Nat} {L:List Item} {m:Nat->Option (Nat×Nat)} {t:BT}
def mZ.tu (h:mZ w b g n L):Good n L:=h.1
def mZ.Qd (h:mZ w b g n L):n<=1024:=by
 obtain⟨_,m,t,⟨_,_,_,_,_,a,_⟩,_⟩:=h
 exact a
def MP {a:Nat} (f: ∀a d s,a<n->(m a=some (d,s)↔(a,d,s)∈L)) (hi:a<n) (e: ∀c∈L,c.1≠a):(m a).isSome=false:=by
 cases h:m a with
 |none=>rfl
 |some x=>
  grind
def NL {a d s:Nat} (j: ∀a d s,a<n->(m a=some (d,s)↔(a,d,s)∈L)) (h: ∀f∈L,f.1≠a): ∀i e c,i<n->(ay m a (some (d,s)) i=some (e,c)↔(i,e,c)∈ins (a,d,s) L):=by
 grind[Ph.cQ,ay]
def N6 {a:Nat} (f: ∀a d s,a<n->(m a=some (d,s)↔(a,d,s)∈L)): ∀i e c,i<n->(ay m a none i=some (e,c)↔(i,e,c)∈out a L):=by
 grind[Ph.tF,ay]
theorem zM {a d s:Nat} {L:List Item} (h:Good n L) (c:(a,d,s)∈L):(out a L).length+1=L.length:=by
 obtain⟨f,e,rfl⟩:=List.append_of_mem c
 rw[show out a (f++(a,d,s)::e)=f++e from C9 (x:=(a,d,s)) h]
 grind
def zt (h:mZ w b g n L) (f d s:Nat) (c:f<n) (a: ∀k∈L,k.1≠f):
  aB 225 #[ak b,ab f,aj d,aj s] w fun e w'=>e= .returned (ab 0)/\mZ w' b g n (ins (f,d,s) L)/\aW b g w w':=by
 obtain⟨u,m,t,r,v,i⟩:=h
 refine(Ct r f d s c (MP i c a)).mono ?_
 rintro e w' ⟨q,j,p,l,o⟩
 refine⟨q,⟨u.ins (x:=(f,d,s)) c a,_,j,l,?_,NL i a⟩,o⟩
 grind[List.Perm.length_eq,Ph.oV,List.length_cons]
def zJ (h:mZ w b g n L) (a d s:Nat) (c:(a,d,s)∈L):
  aB 203 #[ak b,ab a] w fun e w'=>e= .returned (ab 0)/\mZ w' b g n (out a L)/\aW b g w w':=by
 obtain⟨f,m,t,q,r,l⟩:=h
 have hi:=f.nN _ c
 refine(BP q a hi y_).mono ?_
 rintro e w' ⟨k,i,p,j,o⟩
 refine⟨k,⟨f.out a,_,i,j,?_,N6 l⟩,o⟩
 grind[List.Perm.length_eq,List.length_cons,Ph.zM]
theorem yt {x:Item} {a:Nat} (f:Good n (x::L)) (h: ∀a d s,a<n->(m a=some (d,s)↔(a,d,s)∈x::L)) (i:zO n m a):a=x.1:=by
 obtain⟨hi,d,s,j,c⟩:=i
 have l:=(h a d s hi).1 j
 rcases List.mem_cons.1 l with e|e
 ·grind
 ·have k:=(List.pairwise_cons.1 f.srt).1 _ e
  have o:=c x.1 x.2.1 x.2.2 (f.nN x q_) ((h x.1 x.2.1 x.2.2 (f.nN x q_)).2 q_)
  unfold ah at k
  grind
def Jr {x:Item} (h:mZ w b g n (x::L)):
  aB 217 #[ak b] w fun e a=>e=aS #[ab x.1,.bool true]/\ ∃q,a=w.drewN q:=by
 obtain⟨i,m,t,c,f,d⟩:=h
 refine(Mk c y_).mono ?_
 grind[Ph.yt]
theorem mZ.rep (h:mZ w b g n L): ∃t D S I C A B T,aH w b g n (BT.root t) L.length D S I C A B T/\(L=[]->t=BT.nil)/\n<=1024/\ou n D S T/\(∀a,a<n->(T (a+1)=true↔ ∃d∈L,d.1=a))/\ ∀a,a<n->T (a+1)=true->(a,D (a+1),S (a+1))∈L:=by
 obtain⟨q,m,t,⟨D,S,I,T,k,f,o,j⟩,c,p⟩:=h
 obtain⟨C,A,B,i,_⟩:=k.lk
 refine⟨t,D,S,I,C,A,B,T,c▸i,fun e=> ?_,f,j,fun a hi=> ?_,fun a hi l=> ?_⟩
 ·subst e
  cases t with
  |nil=>rfl
  |node _ _ _=>simp[BT.ai] at c
 ·grind
 grind
theorem mZ.kept {w':World} (h:mZ w b g n L) (f:w'.heap[b]? =w.heap[b]?) (e:w'.heap[g]? =w.heap[g]?):mZ w' b g n L:=by
 obtain⟨q,m,t,⟨D,S,I,T,a,d,l,k⟩,p,o⟩:=h
 obtain⟨C,A,B,i,c,j⟩:=a.lk
 exact⟨q,m,t,⟨D,S,I,T,⟨⟨C,A,B,i.kept f e,c,j⟩,a.wd,a.od,a.sp,a.th,a.id⟩,d,l,k⟩,p,o⟩
def mZ.blocks (h:mZ w b g n L):b<w.heap.size/\g<w.heap.size/\b≠g:=by
 obtain⟨t,D,S,I,C,A,B,T,a,_⟩:=h.rep
 exact⟨a.cG,a.dO,a.bg⟩
def mZ.below {w':World} (h:mZ w b g n L) (a:aC w w'):mZ w' b g n L:=h.kept (a.block b h.blocks.1) (a.block g h.blocks.2.1)
end
attribute [local go_sem ↓] Go.wp_at_zero Go.wp_at_succ
section
variable {w:World} {b g n:Nat} {L:List Item}
def Jq (n:Nat) (w:World) (h:1<=n) (a:n<=1024):
  aB 115 #[ab n] w fun e w'=>e= .returned (ak (w.heap.size+1))/\mZ w' (w.heap.size+1) w.heap.size n []/\aC w w':=by
 refine(ig n w h a).mono ?_
 rintro e w' ⟨d,c,f⟩
 refine⟨d,⟨Good.nil n,fun _=>none,.nil,⟨_,_,_,_,⟨⟨_,_,_,c,trivial,rfl⟩,x_,trivial,⟨x_,by simp[BT.ai]⟩,fun y _=>by simp[BT.ai],x_⟩,a,fun _ _=>rfl,fun _ _ _=>⟨rfl,rfl⟩⟩,rfl,fun _ _ _ _=>by simp⟩,f⟩
def rY (h:mZ w b g n []):
  vS 217 #[ak b] w (.tuple #[ab 0,.bool false]):=by
 obtain⟨t,D,S,I,C,A,B,T,a,c,_⟩:=h.rep
 rw[c rfl] at a
 exact Ha a
def ux (h:mZ w b g n L) (a:Nat) (hi:a<n) (d: ∀c∈L,c.1≠a):
  vS 203 #[ak b,ab a] w (ab 6):=by
 grind[Ph.mZ.rep,Ph.vi]
def J4 (h:mZ w b g n L):
  vS 188 #[ak b] w (ab L.length):=by
 obtain⟨t,D,S,I,C,A,B,T,a,_⟩:=h.rep
 have c:=a.ct
 clear a h
 refine ge ?_
 go_wp2
 go_ret
 simp
def Ba {f k:Nat} {D S I C A B:Nat->Nat} {T:Nat->Bool} (h:aH w b g n f k D S I C A B T) (e:Nat) (hi:e<n) (j:n<=1024):
  vQ 201 #[ak b,ab e] w (.tuple #[aj (D (e+1):Nat),aj (S (e+1):Nat),.bool (T (e+1))]):=by
 have l:=aa (dp h e j hi)
 obtain⟨o,m⟩:=h.sl
 have y:=h.nd (e+1) z_
 have x:=h.ns (e+1) z_
 have v:=h.ni (e+1) z_
 have u:=h.nc (e+1) z_
 have r:=h.na (e+1) z_
 have q:=h.nb (e+1) z_
 have p:=h.nt (e+1) z_
 clear h
 generalize D (e+1)=d at*
 generalize S (e+1)=s at*
 generalize I (e+1)=i at*
 generalize C (e+1)=c at*
 generalize A (e+1)=a at*
 generalize B (e+1)=bb at*
 generalize T (e+1)=t at*
 refine ge ?_
 go_wp2_with (go_at_call 222;refine cS l.out ?_)
 go_quiet (fail)
 go_wp2
 go_ret3
 exact⟨rfl,below_drewN bq _⟩
def BA (h:mZ w b g n L) (a:Nat) (hi:a<n) (j: ∀f∈L,f.1≠a):
  vQ 201 #[ak b,ab a] w (.tuple #[aj 0,aj 0,.bool false]):=by
 obtain⟨t,D,S,I,C,A,B,T,k,_,i,e,l,_⟩:=h.rep
 have c:T (a+1)=false:=by
  grind
 have d:=Ba k a hi i
 rw[c,(e a hi c).1,(e a hi c).2] at d
 exact d
def Cg (h:mZ w b g n L) (c d s:Nat) (a:(c,d,s)∈L):
  vQ 201 #[ak b,ab c] w (.tuple #[aj d,aj s,.bool true]):=by
 obtain⟨t,D,S,I,C,A,B,T,p,_,l,q,o,m⟩:=h.rep
 have hi:=h.tu.nN _ a
 have k:=(o c hi).2 ⟨_,a,rfl⟩
 have i:=h.tu.uniq (m c hi k) a rfl
 injection i with _ i
 injection i with f e
 have j:=Ba p c hi l
 rw[k,f,e] at j
 exact j
end
end Go.Proofs.YtnmhcgpnhlhcgaaGreatDoor.Ph
namespace Go.Proofs.YtnmhcgpnhlhcgaaGreatDoor.Dc
open Go.RowKit Go.Lib
section
variable {S b:Nat->Prop} {w c a:World}
end
def aJ {w:World} {d:Nat} {e:TypeId} {b:Nat} {v:Value} {n:Nat} {xs:List Value} (h:w.ownsRow d e b v n xs): ∃a c,v= .slice a n c:=by
 rcases h.2 with ⟨e,j⟩|⟨g,i,f,e,_⟩
 ·grind
 grind
attribute [local go_sem ↓] Go.wp_at_zero Go.wp_at_succ
@[go_sem high] theorem Qn (a b : Ke.K) (w : World) : (binOp .neq 120 (.agg (bn a)) (.agg (bn b))).run Tryz.prog w = .ok (.bool (!Ke.same a b)) w := by
 simp[binOp,go_sem]
section
variable {w:World} {a c n b:Nat} {v:Value} {R d e:List En} {g:Nat} {k f:Ke.K}
end
end Go.Proofs.YtnmhcgpnhlhcgaaGreatDoor.Dc
namespace Go.Proofs.YtnmhcgpnhlhcgaaGreatDoor
open Go.RowKit
attribute [local go_sem ↓] Go.wp_at_zero Go.wp_at_succ
structure St (w:World) (sb qb gq hb gh n most turn:Nat) (R:List (Nat×Nat)) (L:List Ph.Item):Prop where
 c0:w.cell? (ao sb)=some (ak qb)
 c1:w.cell? (af sb 1)=some (ak hb)
 c2:w.cell? (af sb 2)=some (ab n)
 c3:w.cell? (af sb 3)=some (ab most)
 c4:w.cell? (af sb 4)=some (aj turn)
 fz: ∀o,w.frozen? (af sb o)=false
 q:Bq.db w qb gq n R
 h:Ph.mZ w hb gh n L
 ne:sb≠qb/\sb≠gq/\sb≠hb/\sb≠gh/\qb≠hb/\qb≠gh/\gq≠hb/\gq≠gh
section
variable {w w':World} {b g f e gh n d c:Nat} {R:List (Nat×Nat)} {L:List Ph.Item}
theorem St.lt (h:St w b g f e gh n d c R L):b<w.heap.size:=i7 w (ao b) h.c0
def St.below (h:St w b g f e gh n d c R L) (hw:aC w w'):St w' b g f e gh n d c R L:=
 ⟨(hw.cell (p:=(ao b)) h.lt).trans h.c0,(hw.cell (p:=(af b 1)) h.lt).trans h.c1,(hw.cell (p:=(af b 2)) h.lt).trans h.c2,(hw.cell (p:=(af b 3)) h.lt).trans h.c3,(hw.cell (p:=(af b 4)) h.lt).trans h.c4,fun o=>(zV0 (a:=(af b o)) (hw.block b h.lt)).trans (h.fz o),h.q.below hw,h.h.below hw,h.ne⟩
end
def JH (n a:Nat) (w:World) (m:1<=n) (l:n<=1024) (B:1<=a) (A:a<=n):
  aB 69 #[ab n,ab a] w fun e w'=> ∃i j p k gh,e= .returned (ak i)/\w.heap.size<=i/\w.heap.size<=j/\w.heap.size<=p/\w.heap.size<=k/\w.heap.size<=gh/\St w' i j p k gh n a 0 [] []/\aC w w':=by
 have y:=aa (Bq.ig n w m l)
 have z:=aa (fun W=>Ph.Jq n W m l)
 refine ge ?_
 go_wp2_with (first
  |(go_at_call 114;refine cI y.out fun d f c=> ?_)
  |(go_at_call 115;refine cI (z.out _) fun h g b=> ?_))
 have x:Hid (St (h.alloc (.cells #[ak (w.heap.size+1),ak (d.heap.size+1),ab n,ab a,aj 0] 233)) h.heap.size (w.heap.size+1) w.heap.size (d.heap.size+1) d.heap.size n a 0 [] []):=by
  have u:=f.out.below b.out
  have t:=u.below (cj.alloc aT (.cells #[ak (w.heap.size+1),ak (d.heap.size+1),ab n,ab a,aj 0] 233))
  have s:=g.out.below (cj.alloc aT (.cells #[ak (w.heap.size+1),ak (d.heap.size+1),ab n,ab a,aj 0] 233))
  have D:=f.out.blocks
  have C:=g.out.blocks
  have r:=c.out.size
  have q:=b.out.size
  exact⟨q_,q_,q_,q_,q_,fun o=>cA _ _ _ _,t,s,z_⟩
 have v:Hid (aC w (h.alloc (.cells #[ak (w.heap.size+1),ak (d.heap.size+1),ab n,ab a,aj 0] 233))):=(c.out.trans (b.out.mono c.out.size)).alloc (zY0 c.out.size b.out.size) _
 have r:=c.out.size
 have q:=b.out.size
 go_ret
 exact⟨_,_,_,_,_,rfl,z_,z_,z_,z_,z_,x.out,v.out⟩
section
variable {w:World} {g c f b gh n e d:Nat} {R:List (Nat×Nat)} {L:List Ph.Item}
def m7 (h:St w g c f b gh n e d R L) (m:Nat) (hi:m<n) (F: ∀s∈R,s.1≠m) (G: ∀s∈L,s.1≠m):
  vQ 174 #[.agg #[ak c,ak b],ab m] w (.tuple #[.agg #[.bool false,aj 0,aA 0],.bool false]):=by
 have t:=((i4 w.heap.size w).alloc aT (.cells #[ak c,ak b] 231)).alloc q_ (.cells #[.bool false,aj 0,aA 0] 120)
 have I:=aa t
 have B:=aa (h.below t)
 have hz:((w.alloc (.cells #[ak c,ak b] 231)).alloc (.cells #[.bool false,aj 0,aA 0] 120)).heap.size=w.heap.size+2:=q_
 have A:=aa hz
 have z:((w.alloc (.cells #[ak c,ak b] 231)).alloc (.cells #[.bool false,aj 0,aA 0] 120)).cell? (af w.heap.size 1)=some (ak b):=by
  simp
 have x:Hid (∀i,((w.alloc (.cells #[ak c,ak b] 231)).alloc (.cells #[.bool false,aj 0,aA 0] 120)).cell? (af (w.heap.size+1) i)=(#[.bool false,aj 0,aA 0]:Array Value)[i]?):=fun i=>by
  simp
 have y:Hid (∀i,((w.alloc (.cells #[ak c,ak b] 231)).alloc (.cells #[.bool false,aj 0,aA 0] 120)).frozen? (af (w.heap.size+1) i)=false):=fun i=>by
  simp
 have J:=aa z
 clear h t hz z
 refine ge ?_
 go_wp2_with (first
  |(go_at_call 200;refine(Bq.pQ B.out.q hi F).mono ?_;rintro j O ⟨rfl,l⟩;have u:=aa (B.out.below l);have r:=aa l;have M:=(l.cell (p:=(af w.heap.size 1)) (by rw[A.out];simp)).trans J.out;clear l)
  |(go_at_call 201;refine(Ph.BA u.out.h m hi G).mono ?_;rintro j N ⟨rfl,o⟩;have k:=aa (r.out.trans (o.mono r.out.size));have P:=k.out.size;have E:=(k.out.cell (p:=(ao (w.heap.size+1))) q_).trans (x.out 0);have D:=(k.out.cell (p:=(af (w.heap.size+1) 1)) q_).trans (x.out 1);have C:=(k.out.cell (p:=(af (w.heap.size+1) 2)) q_).trans (x.out 2);have T:=(zV0 (a:=(ao (w.heap.size+1))) (k.out.block (w.heap.size+1) q_)).trans (y.out 0);have S:=(zV0 (a:=(af (w.heap.size+1) 1)) (k.out.block (w.heap.size+1) q_)).trans (y.out 1);have Q:=(zV0 (a:=(af (w.heap.size+1) 2)) (k.out.block (w.heap.size+1) q_)).trans (y.out 2);have H:=aa ((I.out.trans (k.out.mono (by rw[A.out];omega))));clear o))
 refine bodyPost_ret (v:= .tuple #[.agg #[.bool false,aj 0,aA 0],.bool false]) ?_ rfl ?_
 ·simp[results,Tryz.f174,go_sem,E,D,C]
 ·refine⟨rfl,?_⟩
  exact((H.out.setCell (p:=(ao (w.heap.size+1))) q_ _).setCell (p:=(af (w.heap.size+1) 1)) q_ _).setCell (p:=(af (w.heap.size+1) 2)) q_ _
end
section
variable {S b:Nat->Prop} {w c a:World}
end
def Fr.I3 {b g:Nat} {w w':World} (h:aW b g w w'):Fr (fun k=>k=b\/k=g) w w':=⟨h.os,h.tape,h.output,h.size,fun k a c=>h.block k a z_ z_⟩
def Fr.Kr {b g:Nat} {w w':World} (h:aW b g w w'):Fr (fun k=>k=b\/k=g) w w':=⟨h.os,h.tape,h.output,h.size,fun k a c=>h.block k a z_ z_⟩
section
variable {w w':World} {e f g d gh n c b:Nat} {R i:List (Nat×Nat)} {L L':List Ph.Item}
def St.P8 (h:St w e f g d gh n c b R L) (q:Bq.db w' f g n i) (j:Fr (fun k=>k=f\/k=g) w w'):St w' e f g d gh n c b i L:=by
 have p:=h.ne
 have l: ¬(e=f\/e=g):=z_
 have m:=h.h.blocks
 exact⟨(j.cell (a:=(ao e)) h.lt l).trans h.c0,(j.cell (a:=(af e 1)) h.lt l).trans h.c1,(j.cell (a:=(af e 2)) h.lt l).trans h.c2,(j.cell (a:=(af e 3)) h.lt l).trans h.c3,(j.cell (a:=(af e 4)) h.lt l).trans h.c4,fun o=>(j.frozen (a:=(af e o)) h.lt l).trans (h.fz o),q,h.h.kept (j.block d m.1 z_) (j.block gh m.2.1 z_),p⟩
def St.Qb (h:St w e f g d gh n c b R L) (r:Ph.mZ w' d gh n L') (j:Fr (fun k=>k=d\/k=gh) w w'):St w' e f g d gh n c b R L':=by
 have p:=h.ne
 have l: ¬(e=d\/e=gh):=z_
 have m:=h.q.blocks
 exact⟨(j.cell (a:=(ao e)) h.lt l).trans h.c0,(j.cell (a:=(af e 1)) h.lt l).trans h.c1,(j.cell (a:=(af e 2)) h.lt l).trans h.c2,(j.cell (a:=(af e 3)) h.lt l).trans h.c3,(j.cell (a:=(af e 4)) h.lt l).trans h.c4,fun o=>(j.frozen (a:=(af e o)) h.lt l).trans (h.fz o),h.q.kept (j.block f m.1 z_) (j.block g m.2.1 z_),r,p⟩
def Cn (h:St w e f g d gh n c b R L) (r:Nat) (hi:r<n) (M: ∀J∈R,J.1≠r) (l s:Nat) (N:(r,l,s)∈L):
  vQ 174 #[.agg #[ak f,ak d],ab r] w (.tuple #[.agg #[.bool true,aj l,aA 0],.bool true]):=by
 have z:=((i4 w.heap.size w).alloc aT (.cells #[ak f,ak d] 231)).alloc q_ (.cells #[.bool false,aj 0,aA 0] 120)
 have P:=aa z
 have F:=aa (h.below z)
 have hz:((w.alloc (.cells #[ak f,ak d] 231)).alloc (.cells #[.bool false,aj 0,aA 0] 120)).heap.size=w.heap.size+2:=q_
 have E:=aa hz
 have D:((w.alloc (.cells #[ak f,ak d] 231)).alloc (.cells #[.bool false,aj 0,aA 0] 120)).cell? (af w.heap.size 1)=some (ak d):=by
  simp
 have B:Hid (∀j,((w.alloc (.cells #[ak f,ak d] 231)).alloc (.cells #[.bool false,aj 0,aA 0] 120)).cell? (af (w.heap.size+1) j)=(#[.bool false,aj 0,aA 0]:Array Value)[j]?):=fun j=>by
  simp
 have C:Hid (∀j,((w.alloc (.cells #[ak f,ak d] 231)).alloc (.cells #[.bool false,aj 0,aA 0] 120)).frozen? (af (w.heap.size+1) j)=false):=fun j=>by
  simp
 have Q:=aa D
 clear h z hz D
 refine ge ?_
 go_wp2_with (first
  |(go_at_call 200;refine(Bq.pQ F.out.q hi M).mono ?_;rintro k V ⟨rfl,o⟩;have A:=aa (F.out.below o);have y:=aa o;have S:=(o.cell (p:=(af w.heap.size 1)) (by rw[E.out];simp)).trans Q.out;clear o)
  |(go_at_call 201;refine(Ph.Cg A.out.h r l s N).mono ?_;rintro k T ⟨rfl,t⟩;have x:=aa (y.out.trans (t.mono y.out.size));clear t)
  |(go_at_call 131;refine(Ke.tN _ (l:Int)).mono ?_;rintro k U ⟨rfl,u⟩;have m:=aa (x.out.trans (u.mono x.out.size));have W:=m.out.size;have I:=(m.out.cell (p:=(ao (w.heap.size+1))) q_).trans (B.out 0);have H:=(m.out.cell (p:=(af (w.heap.size+1) 1)) q_).trans (B.out 1);have G:=(m.out.cell (p:=(af (w.heap.size+1) 2)) q_).trans (B.out 2);have Z:=(zV0 (a:=(ao (w.heap.size+1))) (m.out.block (w.heap.size+1) q_)).trans (C.out 0);have Y:=(zV0 (a:=(af (w.heap.size+1) 1)) (m.out.block (w.heap.size+1) q_)).trans (C.out 1);have X:=(zV0 (a:=(af (w.heap.size+1) 2)) (m.out.block (w.heap.size+1) q_)).trans (C.out 2);have O:=aa ((P.out.trans (m.out.mono (by rw[E.out];omega))));clear u))
 refine bodyPost_ret (v:= .tuple #[.agg #[.bool true,aj l,aA 0],.bool true]) ?_ rfl ?_
 ·simp[results,Tryz.f174,go_sem,I,H,G,Ke.du]
 ·refine⟨rfl,?_⟩
  exact((O.out.setCell (p:=(ao (w.heap.size+1))) q_ _).setCell (p:=(af (w.heap.size+1) 1)) q_ _).setCell (p:=(af (w.heap.size+1) 2)) q_ _
def zF (h:St w e f g d gh n c b R L) (l j u:Nat) (hi:l<n) (p:j<256) (o: ∀v∈R,v.1≠l):
  aB 204 #[.agg #[ak f,ak d],ab l,.agg #[.bool false,aj 0,aA j],aj u] w fun a w'=>a=aS #[]/\St w' e f g d gh n c b (R++[(l,j)]) L/\Fr (fun k=>k=f\/k=g) w w':=by
 have r:=((i4 w.heap.size w).alloc aT (.cells #[ak f,ak d] 231)).alloc q_ (.cells #[.bool false,aj 0,aA j] 120)
 have x:=aa r
 have t:=aa (h.below r)
 clear h r
 refine ge ?_
 go_wp2_with (go_at_call 226;refine(Bq.Jz _ f g n R l j t.out.q hi p o).mono ?_;rintro a y ⟨rfl,s,m⟩;have z:=aa (t.out.P8 s (Fr.I3 m));have A:=aa ((Fr.aF x.out).trans (Fr.I3 m));clear s m)
 go_end0
 grind[RowKit.Hid.out]
def CE (h:St w e f g d gh n c b R L) (l j m:Nat) (hi:l<n) (p: ∀t∈L,t.1≠l):
  aB 204 #[.agg #[ak f,ak d],ab l,.agg #[.bool true,aj j,aA 0],aj m] w fun a w'=>a=aS #[]/\St w' e f g d gh n c b R (Ph.ins (l,j,m) L)/\Fr (fun k=>k=d\/k=gh) w w':=by
 have q:=((i4 w.heap.size w).alloc aT (.cells #[ak f,ak d] 231)).alloc q_ (.cells #[.bool true,aj j,aA 0] 120)
 have u:=aa q
 have s:=aa (h.below q)
 clear h q
 refine ge ?_
 go_wp2_with (go_at_call 225;refine(Ph.zt s.out.h l j m hi p).mono ?_;rintro a v ⟨rfl,r,o⟩;have x:=aa (s.out.Qb r (Fr.Kr o));have y:=aa ((Fr.aF u.out).trans (Fr.Kr o));clear r o)
 go_end0
 grind[RowKit.Hid.out]
end
section
variable {w w':World} {c e g f gh n d b:Nat} {R i:List (Nat×Nat)} {L j:List Ph.Item}
def St.jV (h:St w c e g f gh n d b R L) (t:Nat):St (w.setCell (af c 4) (aj t)) c e g f gh n d t R L:=by
 have l:Fr (fun k=>k=c) w (w.setCell (af c 4) (aj t)):=Fr.setCell (S:=fun k=>k=c) (a:=(af c 4)) (Fr.refl _ _) rfl _
 have m:=h.ne
 have r:=h.q.blocks
 have p:=h.h.blocks
 exact⟨by grind[Ph.aw,St.c0],by grind[Ph.aw,St.c1],by grind[Ph.aw,St.c2],by grind[Ph.aw,St.c3],Ph.aU _ _ _ _ h.c4,fun o=>by grind[World.frozen?_setCell,St.fz],h.q.kept (l.block e r.1 z_) (l.block g r.2.1 z_),h.h.kept (l.block f p.1 z_) (l.block gh p.2.1 z_),m⟩
def tH (h:St w c e g f gh n d b R L) (m:Nat) (hi:m<n) (k:Ke.K) (o:Ke.aN k=true):
  vQ 173 #[ak c,ab m,.agg (bn k)] w (ab 0):=by
 have v:=h.c2
 have q:=h.lt
 have u:=h.h.Qd
 have p:=fun W=>by
  have:=Ke.cf W k
  rw[o] at this
  exact this
 have r:=aa p
 clear h p o
 refine ge ?_
 go_wp2_with (go_at_call 129;refine(r.out _).mono ?_;rintro a t ⟨rfl,l⟩;have s:=aa (((i4 w.heap.size w).alloc aT _).trans (l.mono q_));clear l)
 go_ret
 exact⟨rfl,s.out⟩
theorem uu (h:St w c e g f gh n d b R L) (m:R.length+L.length<=4096):
  vQ 159 #[ak c] w (ab ((R.length+L.length:Nat):Int)):=by
 have p:=h.c0
 have o:=h.c1
 have k:=aa h.q
 have l:=aa h.h
 have a:IntKind.i64.wrap ((R.length:Int)+L.length)=(R.length:Int)+L.length:=by simp[IntKind.wrap,IntKind.bits,IntKind.signed];omega
 clear h
 refine ge ?_
 go_wp2
 go_region_held3 (fun w'=>w'.cell? (ao c)=some (ak e)/\w'.cell? (af c 1)=some (ak f))
  (first|go_keep)
  (first
   |(go_at_call 187;refine cS (Bq.Ly _ e g n R (k.out.kept (w':=w.drew) rfl rfl)) ?_)
   |(go_at_call 188;refine cS (Ph.J4 (l.out.kept (w':=w.drew) rfl rfl)) ?_))
 go_wp2
 go_ret
 exact⟨q_,cj.drew⟩
def pS (h:St w c e g f gh n d b R L) (I:b<=1000000000) (s o:Nat) (hi:s<n) (x:o<256) (u: ∀B∈R,B.1≠s):
  aB 176 #[ak c,ab s,.agg #[.bool false,aj 0,aA o]] w fun m w'=>m=aS #[]/\St w' c e g f gh n d (b+1) (R++[(s,o)]) L/\Fr (fun k=>k=c\/k=e\/k=g) w w':=by
 have y:=(i4 w.heap.size w).alloc aT (.cells #[.bool false,aj 0,aA o] 120)
 have r:=h.below y
 have P:=r.c0
 have O:=r.c1
 have N:=r.c4
 have G:=aa y
 have Q:=aa r
 have E:=aa (fun q=>zF (r.below (below_drewN cj q)) s o b hi x u)
 have A:Hid (∀l v,l<3->(#[.bool false,aj 0,aA o]:Array Value)[l]? =some v->(w.alloc (.cells #[.bool false,aj 0,aA o] 120)).cell? (af w.heap.size l)=some v):=fun l v _ m=>by simp_all
 have z:Hid (¬(w.heap.size=e\/w.heap.size=g)):=by have:=h.q.blocks;unfold Hid;omega
 clear h r y
 refine ge ?_
 go_wp2
 go_region_held3 (fun w'=>w'.cell? (ao c)=some (ak e)/\w'.cell? (af c 1)=some (ak f)/\w'.cell? (af c 4)=some (aj b)/\w'.cell? (ao w.heap.size)=some (.bool false)/\w'.cell? (af w.heap.size 1)=some (aj 0)/\w'.cell? (af w.heap.size 2)=some (aA o))
  (first|exact HK.out|go_keep)
  ((go_at_call 204;refine(E.out 1).mono ?_;rintro m H ⟨rfl,p,t⟩;have D:=aa p;have F:=aa t;have M:=p.c4;have J:=p.fz 4;have C:=p.lt;have HK:=aa (And.intro p.c0 (And.intro p.c1 (And.intro p.c4 (And.intro ((t.cell (a:=(ao w.heap.size)) q_ z.out).trans (A.out 0 _ x_ rfl)) (And.intro ((t.cell (a:=(af w.heap.size 1)) q_ z.out).trans (A.out 1 _ x_ rfl)) ((t.cell (a:=(af w.heap.size 2)) q_ z.out).trans (A.out 2 _ x_ rfl)))))));clear p t))
 go_wp2
 go_end0
 exact⟨rfl,D.out.jV (b+1),Fr.setCell (S:=fun k=>k=c\/k=e\/k=g) (a:=(af c 4)) (((Fr.aF G.out).drewN 1).trans (F.out.wide z_)) (.inl rfl) _⟩
def sR (h:St w c e g f gh n d b R L) (H:b<=1000000000) (s o:Nat) (hi:s<n) (u: ∀A∈L,A.1≠s):
  aB 176 #[ak c,ab s,.agg #[.bool true,aj o,aA 0]] w fun m w'=>m=aS #[]/\St w' c e g f gh n d (b+1) R (Ph.ins (s,o,b) L)/\Fr (fun k=>k=c\/k=f\/k=gh) w w':=by
 have x:=(i4 w.heap.size w).alloc aT (.cells #[.bool true,aj o,aA 0] 120)
 have r:=h.below x
 have O:=r.c0
 have N:=r.c1
 have M:=r.c4
 have F:=aa x
 have P:=aa r
 have D:=aa (fun q=>CE (r.below (below_drewN cj q)) s o b hi u)
 have z:Hid (∀l v,l<3->(#[.bool true,aj o,aA 0]:Array Value)[l]? =some v->(w.alloc (.cells #[.bool true,aj o,aA 0] 120)).cell? (af w.heap.size l)=some v):=fun l v _ m=>by simp_all
 have y:Hid (¬(w.heap.size=f\/w.heap.size=gh)):=by have:=h.h.blocks;unfold Hid;omega
 clear h r x
 refine ge ?_
 go_wp2
 go_region_held3 (fun w'=>w'.cell? (ao c)=some (ak e)/\w'.cell? (af c 1)=some (ak f)/\w'.cell? (af c 4)=some (aj b)/\w'.cell? (ao w.heap.size)=some (.bool true)/\w'.cell? (af w.heap.size 1)=some (aj o)/\w'.cell? (af w.heap.size 2)=some (aA 0))
  (first|exact HK.out|go_keep)
  ((go_at_call 204;refine(D.out 1).mono ?_;rintro m G ⟨rfl,p,t⟩;have C:=aa p;have E:=aa t;have J:=p.c4;have I:=p.fz 4;have B:=p.lt;have HK:=aa (And.intro p.c0 (And.intro p.c1 (And.intro p.c4 (And.intro ((t.cell (a:=(ao w.heap.size)) q_ y.out).trans (z.out 0 _ x_ rfl)) (And.intro ((t.cell (a:=(af w.heap.size 1)) q_ y.out).trans (z.out 1 _ x_ rfl)) ((t.cell (a:=(af w.heap.size 2)) q_ y.out).trans (z.out 2 _ x_ rfl)))))));clear p t))
 go_wp2
 go_end0
 exact⟨rfl,C.out.jV (b+1),Fr.setCell (S:=fun k=>k=c\/k=f\/k=gh) (a:=(af c 4)) (((Fr.aF F.out).drewN 1).trans (E.out.wide z_)) (.inl rfl) _⟩
end
section
variable {w w':World} {b e d c gh n most a:Nat} {R f:List (Nat×Nat)} {L g:List Ph.Item}
def yo (h:St w b e d c gh n most a R L) (ht:a<=1000000000) (o j:Nat) (hi:o<n) (U:j<256) (hr: ∀Q∈R,Q.1≠o) (hl: ∀Q∈L,Q.1≠o) (q:R.length+L.length<most) (hm:most<=1024):
  aB 148 #[ak b,ab o,.agg #[.bool false,aj 0,aA j]] w fun i w'=>i= .returned (ab 0)/\St w' b e d c gh n most (a+1) (R++[(o,j)]) L/\Fr (fun k=>k=b\/k=e\/k=d) w w':=by
 have X:=(i4 w.heap.size w).alloc aT (.cells #[.bool false,aj 0,aA j] 120)
 have H:=h.below X
 have hz:(w.alloc (.cells #[.bool false,aj 0,aA j] 120)).heap.size=w.heap.size+1:=q_
 have HZ:=aa hz
 have r:=tH H o hi ⟨false,0,(j:Int)⟩ (by exact mK)
 have C:=aa r
 have b2:=h.lt
 have HS:=aa H
 have HA:=aa X
 have m:Hid (∀W,Below (w.heap.size+1) (w.alloc (.cells #[.bool false,aj 0,aA j] 120)) W->St W b e d c gh n most a R L/\W.cell? (ao w.heap.size)=(#[.bool false,aj 0,aA j]:Array Value)[0]? /\W.cell? (af w.heap.size 1)=(#[.bool false,aj 0,aA j]:Array Value)[1]? /\W.cell? (af w.heap.size 2)=(#[.bool false,aj 0,aA j]:Array Value)[2]? /\w.heap.size+1<=W.heap.size):=fun W z=>by
  refine⟨H.below (by show Below _ _ _;rw[hz];exact z),?_,?_,?_,by rw[<-hz];exact z.size⟩
  ·rw[z.cell (p:=(ao w.heap.size)) q_,bE]
  ·rw[z.cell (p:=(af w.heap.size 1)) q_,bE]
  ·rw[z.cell (p:=(af w.heap.size 2)) q_,bE]
 have u:=aa q
 have D:=aa hr
 have a5:=aa hl
 clear h H X hz r q hr hl
 refine ge ?_
 go_wp2_with (first
  |(go_at_call 173;refine(C.out).mono ?_;rintro i w1 ⟨rfl,y⟩;have G:=aa (show Below (w.heap.size+1) _ w1 by rw[<-HZ.out];exact y);obtain⟨l,P,O,N,T⟩:=m.out _ G.out;have a3:=aa l;have a0:=l.c0;have Z:=l.c1;clear y l)
  |(go_at_call 174;refine(m7 a3.out o hi D.out a5.out).mono ?_;rintro i w2 ⟨rfl,x⟩;have F:=aa (G.out.trans (x.mono T));obtain⟨t,M,J,I,S⟩:=m.out _ F.out;have b5:=aa t;have Y:=t.c3;clear x t))
 have A:=aa (show Below (w.heap.size+1) (w.alloc (.cells #[.bool false,aj 0,aA j] 120)) ((w2.alloc (.cells #[.bool false,aj 0,aA 0] 120)).drew) from(F.out.alloc S _).drew)
 have a2:=aa (m.out _ A.out).1
 have b4:=a2.out.c3
 have b3:R.length+L.length<=4096:=by have:=u.out;omega
 generalize V:R.length+L.length=NN at*
 have a4:Hid (vQ 159 #[ak b] ((w2.alloc (.cells #[.bool false,aj 0,aA 0] 120)).drew) (ab NN)):=by
  grind[uu,RowKit.Hid.out]
 have b1: ¬(NN:Int)=most:=by have:=u.out;omega
 have a6: ¬NN=most:=by have:=u.out;omega
 clear P O N M J I a0 Z Y V
 go_region_held3 (fun w'=>w'.cell? (af b 3)=some (ab most))
  (first|exact c43|go_keep)
  ((go_at_call 159;refine(a4.out).mono ?_;rintro i w3 ⟨rfl,v⟩;have E:=aa (A.out.trans (v.mono (by simp;omega)));obtain⟨s,a9,a8,a7,b0⟩:=m.out _ E.out;have a1:=aa s;have c43:=s.c3;clear v s))
 have B:=aa (pS a1.out ht o j hi U D.out)
 go_wp2_with (go_at_call 176;refine cI B.out fun w4 HX HF=> ?_)
 go_ret
 exact⟨rfl,HX.out,(Fr.aF (((i4 w.heap.size w).alloc aT _).trans (E.out.mono z_))).trans HF.out⟩
def CQ (h:St w b e d c gh n most a R L) (ht:a<=1000000000) (o j:Nat) (hi:o<n) (hr: ∀Q∈R,Q.1≠o) (hl: ∀Q∈L,Q.1≠o) (q:R.length+L.length<most) (hm:most<=1024):
  aB 148 #[ak b,ab o,.agg #[.bool true,aj j,aA 0]] w fun i w'=>i= .returned (ab 0)/\St w' b e d c gh n most (a+1) R (Ph.ins (o,j,a) L)/\Fr (fun k=>k=b\/k=c\/k=gh) w w':=by
 have V:=(i4 w.heap.size w).alloc aT (.cells #[.bool true,aj j,aA 0] 120)
 have H:=h.below V
 have hz:(w.alloc (.cells #[.bool true,aj j,aA 0] 120)).heap.size=w.heap.size+1:=q_
 have HZ:=aa hz
 have r:=tH H o hi ⟨true,(j:Int),0⟩ (by exact mK)
 have C:=aa r
 have b1:=h.lt
 have HS:=aa H
 have HA:=aa V
 have m:Hid (∀W,Below (w.heap.size+1) (w.alloc (.cells #[.bool true,aj j,aA 0] 120)) W->St W b e d c gh n most a R L/\W.cell? (ao w.heap.size)=(#[.bool true,aj j,aA 0]:Array Value)[0]? /\W.cell? (af w.heap.size 1)=(#[.bool true,aj j,aA 0]:Array Value)[1]? /\W.cell? (af w.heap.size 2)=(#[.bool true,aj j,aA 0]:Array Value)[2]? /\w.heap.size+1<=W.heap.size):=fun W z=>by
  refine⟨H.below (by show Below _ _ _;rw[hz];exact z),?_,?_,?_,by rw[<-hz];exact z.size⟩
  ·rw[z.cell (p:=(ao w.heap.size)) q_,bE]
  ·rw[z.cell (p:=(af w.heap.size 1)) q_,bE]
  ·rw[z.cell (p:=(af w.heap.size 2)) q_,bE]
 have u:=aa q
 have a4:=aa hr
 have D:=aa hl
 clear h H V hz r q hr hl
 refine ge ?_
 go_wp2_with (first
  |(go_at_call 173;refine(C.out).mono ?_;rintro i w1 ⟨rfl,y⟩;have G:=aa (show Below (w.heap.size+1) _ w1 by rw[<-HZ.out];exact y);obtain⟨l,P,O,N,T⟩:=m.out _ G.out;have a2:=aa l;have Z:=l.c0;have Y:=l.c1;clear y l)
  |(go_at_call 174;refine(m7 a2.out o hi a4.out D.out).mono ?_;rintro i w2 ⟨rfl,x⟩;have F:=aa (G.out.trans (x.mono T));obtain⟨t,M,J,I,S⟩:=m.out _ F.out;have b4:=aa t;have X:=t.c3;clear x t))
 have A:=aa (show Below (w.heap.size+1) (w.alloc (.cells #[.bool true,aj j,aA 0] 120)) ((w2.alloc (.cells #[.bool false,aj 0,aA 0] 120)).drew) from(F.out.alloc S _).drew)
 have a1:=aa (m.out _ A.out).1
 have b3:=a1.out.c3
 have b2:R.length+L.length<=4096:=by have:=u.out;omega
 generalize U:R.length+L.length=NN at*
 have a3:Hid (vQ 159 #[ak b] ((w2.alloc (.cells #[.bool false,aj 0,aA 0] 120)).drew) (ab NN)):=by
  grind[uu,RowKit.Hid.out]
 have b0: ¬(NN:Int)=most:=by have:=u.out;omega
 have a5: ¬NN=most:=by have:=u.out;omega
 clear P O N M J I Z Y X U
 go_region_held3 (fun w'=>w'.cell? (af b 3)=some (ab most))
  (first|exact c43|go_keep)
  ((go_at_call 159;refine(a3.out).mono ?_;rintro i w3 ⟨rfl,v⟩;have E:=aa (A.out.trans (v.mono (by simp;omega)));obtain⟨s,a8,a7,a6,a9⟩:=m.out _ E.out;have a0:=aa s;have c43:=s.c3;clear v s))
 have B:=aa (sR a0.out ht o j hi D.out)
 go_wp2_with (go_at_call 176;refine cI B.out fun w4 HX HF=> ?_)
 go_ret
 exact⟨rfl,HX.out,(Fr.aF (((i4 w.heap.size w).alloc aT _).trans (E.out.mono z_))).trans HF.out⟩
end
section
variable {w w':World} {d f g e gh n c b:Nat} {R i:List (Nat×Nat)} {L j:List Ph.Item}
def St.frame {S:Nat->Prop} (h:St w d f g e gh n c b R L) (k:Fr S w w') (l: ¬S d) (u: ¬S f) (t: ¬S g) (s: ¬S e) (r: ¬S gh):St w' d f g e gh n c b R L:=by
 have p:=h.q.blocks
 have m:=h.h.blocks
 exact⟨(k.cell (a:=(ao d)) h.lt l).trans h.c0,(k.cell (a:=(af d 1)) h.lt l).trans h.c1,(k.cell (a:=(af d 2)) h.lt l).trans h.c2,(k.cell (a:=(af d 3)) h.lt l).trans h.c3,(k.cell (a:=(af d 4)) h.lt l).trans h.c4,fun o=>(k.frozen (a:=(af d o)) h.lt l).trans (h.fz o),h.q.kept (k.block f p.1 u) (k.block g p.2.1 t),h.h.kept (k.block e m.1 s) (k.block gh m.2.1 r),h.ne⟩
theorem wi {x:Ph.Item} (h:St w d f g e gh n c b R (x::L)):
  vQ 186 #[.agg #[ak f,ak e]] w (.tuple #[ab x.1,.bool true]):=by
 have k:=(i4 w.heap.size w).alloc aT (.cells #[ak f,ak e] 231)
 have o:=aa k
 have l:=aa (Ph.Jr (h.below k).h)
 clear h k
 refine ge ?_
 go_wp2_with (go_at_call 217;refine(l.out).mono ?_;rintro a p ⟨rfl,q,hw⟩;have m:=aa (below_drewN o.out q);subst hw)
 go_ret2
 exact⟨rfl,m.out⟩
def uh (h:St w d f g e gh n c b R L) (m l s:Nat) (r: ∀u∈R,u.1≠m) (p:(m,l,s)∈L):
  aB 175 #[ak d,ab m] w fun a w'=>a= .returned (ab 0)/\St w' d f g e gh n c b R (Ph.out m L)/\Fr (fun k=>k=e\/k=gh) w w':=by
 have hi:=h.h.tu.nN _ p
 have D:=h.c0
 have C:=h.c1
 have x:=aa h
 have y:=aa (Bq.oM h.q hi r)
 have A:=aa (Ph.zJ h.h m l s p)
 clear h r p
 refine ge ?_
 go_wp2_with (first
  |(go_at_call 202;refine cS y.out ?_)
  |(go_at_call 203;refine(A.out).mono ?_;rintro a B ⟨rfl,t,o⟩;have v:=aa (x.out.Qb t (Fr.Kr o));have z:=aa (Fr.Kr o);clear t o))
 go_ret
 exact⟨rfl,v.out,z.out⟩
end
def Own (a c b gh:Nat) (k:Nat):Prop:=(k=a\/k=c)\/k=b\/k=gh
section
variable {w w':World} {g e i f gh n c b:Nat} {R j:List (Nat×Nat)} {L k:List Ph.Item}
def yw {F E:List (Nat×Nat)} {y s:Nat} (h:St w g e i f gh n c b (F++(y,s)::E) L):
  vQ 174 #[.agg #[ak e,ak f],ab y] w (.tuple #[.agg #[.bool false,aj 0,aA s],.bool true]):=by
 have t:=((i4 w.heap.size w).alloc aT (.cells #[ak e,ak f] 231)).alloc q_ (.cells #[.bool false,aj 0,aA 0] 120)
 have I:=aa t
 have H:=aa (h.below t)
 have hz:((w.alloc (.cells #[ak e,ak f] 231)).alloc (.cells #[.bool false,aj 0,aA 0] 120)).heap.size=w.heap.size+2:=q_
 have G:=aa hz
 have z:((w.alloc (.cells #[ak e,ak f] 231)).alloc (.cells #[.bool false,aj 0,aA 0] 120)).cell? (af w.heap.size 1)=some (ak f):=by
  simp
 have u:Hid (∀d,((w.alloc (.cells #[ak e,ak f] 231)).alloc (.cells #[.bool false,aj 0,aA 0] 120)).cell? (af (w.heap.size+1) d)=(#[.bool false,aj 0,aA 0]:Array Value)[d]?):=fun d=>by
  simp
 have x:Hid (∀d,((w.alloc (.cells #[ak e,ak f] 231)).alloc (.cells #[.bool false,aj 0,aA 0] 120)).frozen? (af (w.heap.size+1) d)=false):=fun d=>by
  simp
 have S:=aa z
 clear h t hz z
 refine ge ?_
 go_wp2_with (first
  |(go_at_call 200;refine cH (Bq.yu H.out.q) fun J r=> ?_)
  |(go_at_call 68;refine(Ke.pL _ (s:Int)).mono ?_;rintro l M ⟨rfl,o⟩;have m:=aa (r.out.trans (o.mono r.out.size));have N:=m.out.size;have C:=(m.out.cell (p:=(ao (w.heap.size+1))) q_).trans (u.out 0);have B:=(m.out.cell (p:=(af (w.heap.size+1) 1)) q_).trans (u.out 1);have A:=(m.out.cell (p:=(af (w.heap.size+1) 2)) q_).trans (u.out 2);have Q:=(zV0 (a:=(ao (w.heap.size+1))) (m.out.block (w.heap.size+1) q_)).trans (x.out 0);have P:=(zV0 (a:=(af (w.heap.size+1) 1)) (m.out.block (w.heap.size+1) q_)).trans (x.out 1);have O:=(zV0 (a:=(af (w.heap.size+1) 2)) (m.out.block (w.heap.size+1) q_)).trans (x.out 2);have D:=aa ((I.out.trans (m.out.mono (by rw[G.out];omega))));clear o))
 refine bodyPost_ret (v:= .tuple #[.agg #[.bool false,aj 0,aA s],.bool true]) ?_ rfl ?_
 ·simp[results,Tryz.f174,go_sem,C,B,A,Ke.bP]
 ·refine⟨rfl,?_⟩
  exact((D.out.setCell (p:=(ao (w.heap.size+1))) q_ _).setCell (p:=(af (w.heap.size+1) 1)) q_ _).setCell (p:=(af (w.heap.size+1) 2)) q_ _
def EB (h:St w g e i f gh n c b R L) (F:Nat) (m:Ke.K) (Q: ∀W,St W g e i f gh n c b R L->Calls Tryz.prog 186 #[.agg #[.pointer (some ⟨e,0,none⟩),.pointer (some ⟨f,0,none⟩)]] W fun q w'=>q= .returned (.tuple #[.int .i64 F,.bool true])/\Below W.heap.size W w') (P: ∀W,St W g e i f gh n c b R L->Calls Tryz.prog 174 #[.agg #[.pointer (some ⟨e,0,none⟩),.pointer (some ⟨f,0,none⟩)],.int .i64 F] W fun q w'=>q= .returned (.tuple #[.agg #[.bool m.e,.int .u64 m.d,.int .u8 m.l],.bool true])/\Below W.heap.size W w'):
  Calls Tryz.prog 158 #[.pointer (some ⟨g,0,none⟩)] w fun q w'=>q= .returned (.tuple #[.int .i64 F,.agg #[.bool m.e,.int .u64 m.d,.int .u8 m.l],.bool true])/\Below w.heap.size w w':=by
 have H:=(i4 w.heap.size w).alloc aT (.cells #[.bool false,.int .u64 0,.int .u8 0] 120)
 have B:=h.below H
 have hz:(w.alloc (.cells #[.bool false,.int .u64 0,.int .u8 0] 120)).heap.size=w.heap.size+1:=q_
 have HZ:=aa hz
 have c0:=B.c0
 have c1:=B.c1
 have HS:=aa B
 have M:=aa Q
 have J:=aa P
 have u:Hid (∀W,Below (w.heap.size+1) (w.alloc (.cells #[.bool false,.int .u64 0,.int .u8 0] 120)) W->St W g e i f gh n c b R L/\(∀o,W.cell? ⟨w.heap.size,o,none⟩=(#[.bool false,.int .u64 0,.int .u8 0]:Array Value)[o]?)/\(∀o,W.frozen? ⟨w.heap.size,o,none⟩=false)/\w.heap.size+1<=W.heap.size/\Below w.heap.size w W):=fun W x=>by
  refine⟨B.below (by rw[<-hz] at x;exact x),fun o=> ?_,fun o=> ?_,by rw[<-hz];exact x.size,H.trans (x.mono z_)⟩
  ·rw[x.cell (p:=⟨w.heap.size,o,none⟩) q_,bE]
  ·rw[zV0 (a:=⟨w.heap.size,o,none⟩) (x.block w.heap.size z_),cA]
 clear h Q P B H hz
 refine ge ?_
 go_wp2_with (first
  |(go_at_call 186;refine(M.out _ HS.out).mono ?_;rintro q T ⟨rfl,A⟩;have E:=aa (show Below (w.heap.size+1) _ T by rw[<-HZ.out];exact A);obtain⟨s,_,_,G,_⟩:=u.out _ E.out;have I:=aa s;have a0:=s.c0;have Z:=s.c1;clear A s)
  |(go_at_call 174;refine(J.out _ I.out).mono ?_;rintro q y ⟨rfl,t⟩;have D:=aa (E.out.trans (t.mono G));have S:=aa t;obtain⟨_,kc,Y,z,C⟩:=u.out _ D.out;have N:=aa C;have r:=aa (u.out _ (D.out.alloc z (.cells #[.bool m.e,.int .u64 m.d,.int .u8 m.l] 120)));have X:=r.out.2.1 0;have V:=r.out.2.1 1;have U:=r.out.2.1 2;have f0:=r.out.2.2.1 0;have f1:=r.out.2.2.1 1;have f2:=r.out.2.2.1 2;clear t kc Y C))
 have O:=z
 have y0: ¬y.heap.size=w.heap.size:=z_
 have y1: ¬w.heap.size=y.heap.size:=z_
 go_region_held3 (fun w'=>w'.cell? ⟨y.heap.size,0,none⟩=some (.bool m.e)/\w'.cell? ⟨y.heap.size,1,none⟩=some (.int .u64 m.d)/\w'.cell? ⟨y.heap.size,2,none⟩=some (.int .u8 m.l))
  (first|go_keep)
  (fail)
 go_wp2
 refine bodyPost_ret (v:= .tuple #[.int .i64 F,.agg #[.bool m.e,.int .u64 m.d,.int .u8 m.l],.bool true]) ?_ rfl ?_
 ·simp[results,Tryz.f158,go_sem,X,V,U]
 ·refine⟨rfl,?_⟩
  exact((((N.out.alloc z_ _).setCell (p:=⟨w.heap.size,0,none⟩) aT _).setCell (p:=⟨w.heap.size,1,none⟩) aT _).setCell (p:=⟨w.heap.size,2,none⟩) aT _).drew
def tX {p o:Nat} {d:List Nat} (h:St w g e i f gh n c b R []) (l:Bq.LM R o) (r:Bq.QL R o=(p+1)::d):
  vQ 186 #[.agg #[ak e,ak f]] w (.tuple #[ab p,.bool true]):=by
 have m:=(i4 w.heap.size w).alloc aT (.cells #[ak e,ak f] 231)
 have s:=aa m
 have u:=aa (Ph.rY (h.below m).h)
 have t:=aa (Bq.G1 _ e i n R p o d (h.below m).q l r)
 clear h m l r
 refine ge ?_
 go_wp2_with (first
  |(go_at_call 217;refine cS u.out ?_)
  |(go_at_call 218;refine(t.out).mono ?_;rintro a x ⟨rfl,hw⟩;have v:=aa (s.out.trans (hw.mono s.out.size));clear hw))
 go_ret2
 exact⟨rfl,v.out⟩
def uQ (h:St w g e i f gh n c b [] []):
  vQ 186 #[.agg #[ak e,ak f]] w (.tuple #[ab 0,.bool false]):=by
 have d:=(i4 w.heap.size w).alloc aT (.cells #[ak e,ak f] 231)
 have l:=aa d
 have o:=aa (Ph.rY (h.below d).h)
 have m:=aa (Bq.GK _ e i n (h.below d).q)
 clear h d
 refine ge ?_
 go_wp2_with (first
  |(go_at_call 217;refine cS o.out ?_)
  |(go_at_call 218;refine(m.out).mono ?_;rintro a r ⟨rfl,hw⟩;have p:=aa (l.out.trans (hw.mono l.out.size));clear hw))
 go_ret2
 exact⟨rfl,p.out⟩
def ru {r p:List (Nat×Nat)} {m s:Nat} (h:St w g e i f gh n c b (r++(m,s)::p) L):
  aB 175 #[ak g,ab m] w fun d w'=>d= .returned (ab 0)/\St w' g e i f gh n c b (r++p) L/\Fr (fun a=>a=e\/a=i) w w':=by
 have A:=h.c0
 have z:=h.c1
 have u:=aa h
 have v:=aa (Bq.wE h.q)
 clear h
 refine ge ?_
 go_wp2_with (go_at_call 202;refine(v.out).mono ?_;rintro d y ⟨rfl,o,l⟩;have t:=aa (u.out.P8 o (Fr.I3 l));have x:=aa (Fr.I3 l);clear o l)
 go_ret
 exact⟨rfl,t.out,x.out⟩
def mG (h:St w g e i f gh n c b R L) (a:Nat) (hi:a<n) (l: ∀d∈R,d.1≠a) (m: ∀d∈L,d.1≠a):
  vS 175 #[ak g,ab a] w (ab 6):=by
 have s:=h.c0
 have r:=h.c1
 have o:=aa (Bq.oM h.q hi l)
 have p:=aa (Ph.ux h.h a hi m)
 clear h l m
 refine ge ?_
 go_wp2_with (first
  |(go_at_call 202;refine cS o.out ?_)
  |(go_at_call 203;refine cS p.out ?_))
 go_ret
 simp
theorem rG (h:St w g e i f gh n c b R L) (a:Int) (hi:a<0\/(n:Int)<=a):
  vS 175 #[ak g,ab a] w (ab 2):=by
 have m:=h.c0
 have l:=h.c1
 have d:=aa (Bq.uk h.q a hi)
 clear h hi
 refine ge ?_
 go_wp2_with (go_at_call 202;refine cS d.out ?_)
 go_ret
 simp
def Ck (h:St w g e i f gh n c b [] []):
  vQ 158 #[ak g] w (.tuple #[ab 0,.agg #[.bool false,aj 0,aA 0],.bool false]):=by
 have hz:(w.alloc (.cells #[.bool false,aj 0,aA 0] 120)).heap.size=w.heap.size+1:=q_
 have x:=aa hz
 have o:=h.below ((i4 w.heap.size w).alloc aT (.cells #[.bool false,aj 0,aA 0] 120))
 have D:=o.c0
 have C:=o.c1
 have y:=aa o
 clear hz h o
 refine ge ?_
 go_wp2_with (go_at_call 186;refine(uQ y.out).mono ?_;rintro d m ⟨rfl,l⟩;have q:=aa (((i4 w.heap.size w).alloc aT (.cells #[.bool false,aj 0,aA 0] 120)).trans (l.mono q_));have u:w.heap.size+1<=m.heap.size:=(by rw[<-x.out];exact l.size);have t:m.cell? (ao w.heap.size)=some (.bool false):=(l.cell (p:=(ao w.heap.size)) q_).trans q_;have s:m.cell? (af w.heap.size 1)=some (aj 0):=(l.cell (p:=(af w.heap.size 1)) q_).trans q_;have r:m.cell? (af w.heap.size 2)=some (aA 0):=(l.cell (p:=(af w.heap.size 2)) q_).trans q_;have B:=(zV0 (a:=(ao w.heap.size)) (l.block w.heap.size q_)).trans (cA _ _ _ _);have A:=(zV0 (a:=(af w.heap.size 1)) (l.block w.heap.size q_)).trans (cA _ _ _ _);have z:=(zV0 (a:=(af w.heap.size 2)) (l.block w.heap.size q_)).trans (cA _ _ _ _);clear l)
 trace_state
 refine bodyPost_ret (v:= .tuple #[ab 0,.agg #[.bool false,aj 0,aA 0],.bool false]) ?_ rfl ?_
 ·simp[results,Tryz.f158,go_sem,t,s,r]
 ·refine⟨rfl,?_⟩
  first
   |exact q.out
   |exact((q.out.setCell (p:=(ao w.heap.size)) aT _).setCell (p:=(af w.heap.size 1)) aT _).setCell (p:=(af w.heap.size 2)) aT _
   |exact(((q.out.setCell (p:=(ao w.heap.size)) aT _).setCell (p:=(af w.heap.size 1)) aT _).setCell (p:=(af w.heap.size 2)) aT _).drew
end
end Go.Proofs.YtnmhcgpnhlhcgaaGreatDoor
namespace Go.Proofs.YtnmhcgpnhlhcgaaGreatDoor
def tI (R:List (Nat×Nat)) (b:Nat):List En:=(R.filter (fun a=>a.2==b)).map (fun a=>(a.1,Ke.bP a.2))
def jZ (R:List (Nat×Nat)):Nat->List En
 |0=>[]
 |k+1=>tI R k++jZ R k
def dl (L:List Ph.Item):List En:=L.map (fun x=>(x.1,Ke.du x.2.1))
def all (R:List (Nat×Nat)) (L:List Ph.Item):List En:=dl L++jZ R 256
def mN {R:List (Nat×Nat)} {lv:Nat} {y:En}:y∈tI R lv↔(y.1,lv)∈R/\y.2=Ke.bP lv:=by
 unfold tI
 simp only[List.mem_map,List.mem_filter,beq_iff_eq]
 grind
theorem kI {R:List (Nat×Nat)} {y:En}: ∀{k:Nat},y∈jZ R k↔ ∃a,a<k/\(y.1,a)∈R/\y.2=Ke.bP a
 |0=>by simp[jZ]
 |k+1=>by
  rw[jZ,List.mem_append,mN,kI]
  grind
theorem zC {L:List Ph.Item} {y:En}:y∈dl L↔ ∃d s,(y.1,d,s)∈L/\y.2=Ke.du d:=by
 unfold dl
 grind
def ki {R:List (Nat×Nat)} {L:List Ph.Item} {y:En}:y∈all R L↔(∃d s,(y.1,d,s)∈L/\y.2=Ke.du d)\/ ∃lv,lv<256/\(y.1,lv)∈R/\y.2=Ke.bP lv:=by
 grind[all,zC,kI]
theorem AV (l k:Int):Ke.up (Ke.bP l) (Ke.bP k)=decide (k<l):=by rfl
theorem KU (l k:Int):Ke.up (Ke.du l) (Ke.du k)=decide (l<k):=by rfl
def AG (R:List (Nat×Nat)) (b a k:Nat):tI (R++[(b,a)]) k=if a=k then tI R k++[(b,Ke.bP a)] else tI R k:=by
 unfold tI
 grind
def AQ (R:List (Nat×Nat)) (b a:Nat): ∀k,k<=a->jZ (R++[(b,a)]) k=jZ R k
 |0,_=>rfl
 |k+1,h=>by rw[jZ,jZ,AG,if_neg z_,AQ R b a k z_]
def AR (R:List (Nat×Nat)) (b a:Nat): ∀k,a<k->put (b,Ke.bP a) (jZ R k)=jZ (R++[(b,a)]) k
 |0,h=>by omega
 |k+1,h=>by
  rw[jZ,jZ,AG]
  have d: ∀y∈tI R k,Ke.up (Ke.bP a) y.2=false:=fun y c=>by
   rw[(mN.1 c).2,AV]
   grind
  rw[ri _ _ _ d]
  by_cases e:a=k
  ·subst e
   rw[if_pos rfl,AQ R b a a aT,wv _ _ (fun y c=> ?_)]
   ·simp
   ·obtain⟨j,f,_,e⟩:=kI.1 c
    rw[e,AV]
    grind
  ·rw[if_neg e,AR R b a k z_]
def r5 (R:List (Nat×Nat)) (L:List Ph.Item) (b a:Nat) (h:a<256):put (b,Ke.bP a) (all R L)=all (R++[(b,a)]) L:=by
 unfold all
 rw[ri _ _ _ (fun y c=> ?_),AR R b a 256 h]
 obtain⟨d,s,_,e⟩:=zC.1 c
 rw[e]
 rfl
def Fw (a d s:Nat) (B:List En) (e: ∀y∈B,Ke.up (Ke.du d) y.2=true): ∀(L:List Ph.Item),(∀y∈L,y.2.2<s)->put (a,Ke.du d) (dl L++B)=dl (Ph.ins (a,d,s) L)++B
 |[],_=>by
  show put (a,Ke.du d) B=(a,Ke.du d)::B
  exact wv _ _ e
 |x::L,h=>by
  have f:=h x q_
  show put (a,Ke.du d) ((x.1,Ke.du x.2.1)::(dl L++B))=_
  simp only[put,Ph.ins]
  rw[KU]
  by_cases c:d<x.2.1
  ·have b:Ph.ah (a,d,s) x:= .inl c
   rw[if_pos b,if_pos y_]
   rfl
  ·have b: ¬Ph.ah (a,d,s) x:=by
    unfold Ph.ah
    grind
   rw[if_neg b,if_neg y_,Fw a d s B e L y_]
   rfl
def vq (R:List (Nat×Nat)) (L:List Ph.Item) (a d s:Nat) (h: ∀y∈L,y.2.2<s):put (a,Ke.du d) (all R L)=all R (Ph.ins (a,d,s) L):=by
 unfold all
 refine Fw a d s _ (fun y b=> ?_) L h
 obtain⟨j,c,_,e⟩:=kI.1 b
 rw[e]
 rfl
def IH (R:List (Nat×Nat)) (a lv:Nat):cut a (tI R lv)=tI (R.filter (fun b=>b.1 !=a)) lv:=by
 unfold cut tI
 rw[List.filter_map,List.filter_filter,List.filter_filter]
 grind
def Am (R:List (Nat×Nat)) (a:Nat): ∀k,cut a (jZ R k)=jZ (R.filter (fun b=>b.1 !=a)) k
 |0=>rfl
 |k+1=>by
  rw[jZ,jZ,<-Am R a k,<-IH]
  exact List.filter_append ..
def Bg (R:List (Nat×Nat)) (L:List Ph.Item) (a:Nat):cut a (all R L)=all (R.filter (fun b=>b.1 !=a)) (Ph.out a L):=by
 unfold all
 rw[<-Am]
 have e:dl (Ph.out a L)=cut a (dl L):=by
  unfold dl cut Ph.out
  rw[List.filter_map]
  rfl
 rw[e]
 exact List.filter_append ..
def jO {R:List (Nat×Nat)} {b:Nat} (h: ∀a∈R,a.1≠b):R.filter (fun a=>a.1 !=b)=R:=by
 grind[List.filter_eq_self]
def uw {c R2:List (Nat×Nat)} {a d:Nat} (h:((c++(a,d)::R2).map (·.1)).Nodup):(c++(a,d)::R2).filter (fun b=>b.1 !=a)=c++R2:=by
 rw[List.map_append,List.map_cons,List.nodup_append] at h
 obtain⟨_,i,g⟩:=h
 rw[yV0] at i
 rw[List.filter_append,List.filter_cons_of_neg q_,jO,jO]
 ·grind
 ·intro b f e
  exact g b.1 y_ a q_ e
def sS (R:List (Nat×Nat)) {y:En} {M:List En}: ∀k,jZ R k=y::M-> ∃b,b<k/\(∃a,tI R b=y::a)/\ ∀j,b<j->j<k->tI R j=[]
 |0,h=>by simp[jZ] at h
 |k+1,h=>by
  rw[jZ] at h
  cases c:tI R k with
  |nil=>
   rw[c] at h
   obtain⟨b,f,e,d⟩:=sS R k h
   grind
  |cons z a=>
   grind
open Go.RowKit
attribute [local go_sem ↓] Go.wp_at_zero Go.wp_at_succ
structure iO (n most turn:Nat) (R:List (Nat×Nat)) (L:List Ph.Item) (M:List En):Prop where
 eq:all R L=M
 nd:(M.map (·.1)).Nodup
 len:R.length+L.length=M.length
 lt: ∀y∈L,y.2.2<turn
 fits:M.length<=most
 mn:most<=n
 rl: ∀it∈R,it.2<256
def dM (w:World) (c d f e gh n b a:Nat) (M:List En):Prop:= ∃R L,St w c d f e gh n b a R L/\iO n b a R L M
def jm (a b d c gh:Nat) (k:Nat):Prop:=k=a\/Own b d c gh k
section
variable {w w':World} {c e f d gh n a b:Nat} {R g:List (Nat×Nat)} {L i:List Ph.Item} {M:List En}
def dM.below (h:dM w c e f d gh n a b M) (hw:aC w w'):dM w' c e f d gh n a b M:=by
 obtain⟨R,L,k,j⟩:=h
 exact⟨R,L,k.below hw,j⟩
def dM.frame {S:Nat->Prop} (h:dM w c e f d gh n a b M) (l:Fr S w w') (j: ∀k,jm c e f d gh k-> ¬S k):dM w' c e f d gh n a b M:=by
 obtain⟨R,L,o,m⟩:=h
 exact⟨R,L,o.frame l (j _ (.inl rfl)) (j _ (.inr (.inl (.inl rfl)))) (j _ (.inr (.inl (.inr rfl)))) (j _ (.inr (.inr (.inl rfl)))) (j _ (.inr (.inr (.inr rfl)))),m⟩
def dM.blocks (h:dM w c e f d gh n a b M): ∀k,jm c e f d gh k->k<w.heap.size:=by
 obtain⟨R,L,o,_⟩:=h
 have m:=o.lt
 have l:=o.q.blocks
 have j:=o.h.blocks
 grind[jm,Own]
def dM.Ka (h:dM w c e f d gh n a b M):n<=1024:=by
 obtain⟨R,L,j,_⟩:=h
 exact j.h.Qd
def iO.Oo (h:iO n a b R L M) {id lv:Nat} (j:(id,lv)∈R):(id,Ke.bP lv)∈M:=by
 rw[<-h.eq]
 exact ki.2 (.inr ⟨lv,h.rl _ j,j,rfl⟩)
def iO.On (h:iO n a b R L M) {x:Ph.Item} (j:x∈L):(x.1,Ke.du x.2.1)∈M:=by
 rw[<-h.eq]
 exact ki.2 mK
def iO.rQ (h:iO n a b R L M) {id:Nat} (m: ∀y∈M,y.1≠id): ∀k∈R,k.1≠id:=fun k l j=>m _ (h.Oo (id:=k.1) (lv:=k.2) l) j
def iO.rX (h:iO n a b R L M) {id:Nat} (m: ∀y∈M,y.1≠id): ∀l∈L,l.1≠id:=fun l k j=>m _ (h.On k) j
theorem iO.apart (h:iO n a b R L M) {x:Ph.Item} (m:x∈L): ∀k∈R,k.1≠x.1:=fun k l j=>by
 have:=AX h.nd (h.Oo (id:=k.1) (lv:=k.2) l) (h.On m) j
 have:=congrArg (fun y=>y.2.e) this
 grind[Ke.bP,Ke.du]
def kz (o:Option Ke.K):Ke.K:=o.getD ⟨false,0,0⟩
def Bh (q:St w c e f d gh n a b R L) (m:iO n a b R L M) (j:Nat) (hi:j<n):
  vQ 174 #[.agg #[ak e,ak d],ab j] w (.tuple #[.agg (bn (kz (keyOf M j))),.bool (keyOf M j).isSome]):=by
 cases r:keyOf M j with
 |none=>
  have l:=cw.1 r
  exact m7 q j hi (m.rQ l) (m.rX l)
 |some k=>
  have l:=(fI m.nd).1 r
  rw[<-m.eq] at l
  rcases ki.1 l with ⟨h,s,p,o⟩|⟨t,_,p,o⟩
  ·have:=Cn q j hi (m.apart p) h s p
   simp only at o
   rw[o]
   exact this
  ·obtain⟨v,u,rfl⟩:=List.append_of_mem p
   simp only at o
   rw[o]
   exact yw q
def Ep (r:St w c e f d gh n a b R L) (s:iO n a b R L M) {y:En} {M':List En} (q:M=y::M'):
  vQ 186 #[.agg #[ak e,ak d]] w (.tuple #[ab y.1,.bool true]):=by
 have l:=s.eq
 rw[q] at l
 cases L with
 |cons x L=>
  grind[all,dl,wi]
 |nil=>
  have z:jZ R 256=y::M':=l
  obtain⟨o,v,⟨m,u⟩,t⟩:=sS R 256 z
  have p:Bq.QL R o=(tI R o).map (fun y=>y.1+1):=by
   unfold Bq.QL tI
   simp
  have A: ∀j,tI R j=[]->Bq.QL R j=[]:=fun j B=>by
   have:Bq.QL R j=(tI R j).map (fun y=>y.1+1):=by
    unfold Bq.QL tI
    simp
   grind
  rw[u] at p
  exact tX r ⟨v,y_,fun j k h=>A j (t j h k)⟩ p
theorem E6 {y:En} {j:List En} (h:((y::j).map (·.1)).Nodup):keyOf (y::j) y.1=some y.2:=(fI h).2 q_
def iO.nN (m:St w c e f d gh n a b R L) (o:iO n a b R L M): ∀y∈M,y.1<n:=fun y l=>by
 rw[<-o.eq] at l
 rcases ki.1 l with ⟨j,s,k,_⟩|⟨p,_,k,_⟩
 ·exact m.h.tu.nN _ k
 ·exact(m.q.nN _ k).1
def Nc (m:St w c e f d gh n a b R L) (k:iO n a b R L M) {y:En} {o:List En} (l:M=y::o):
  vQ 158 #[ak c] w (.tuple #[ab y.1,.agg (bn y.2),.bool true]):=by
 refine EB m y.1 y.2 (fun W j=>Ep j k l) (fun W j=> ?_)
 have:=Bh j k y.1 (iO.nN j k y y_)
 have h:keyOf M y.1=some y.2:=by grind[E6,iO.nd]
 rw[h] at this
 exact this
def Nl (C:St w c e f d gh n a b R L) (p:iO n a b R L M) {id:Nat} {k:Ke.K} (B:(id,k)∈M):
  ∃g i,iO n a b g i (cut id M)/\ ∀W,St W c e f d gh n a b R L->aB 175 #[ak c,ab id] W fun j w'=>j= .returned (ab 0)/\St w' c e f d gh n a b g i/\Fr (Own e f d gh) W w':=by
 have H:=my p.nd B
 have A:=p.len
 have F:=p.fits
 have z:=B
 rw[<-p.eq] at z
 rcases ki.1 z with ⟨l,s,u,J⟩|⟨D,_,u,J⟩
 ·have t:=p.apart u
  have G:=Ph.zM C.h.tu u
  refine⟨R,Ph.out id L,⟨?_,Gw p.nd,y_,fun y v=>p.lt y (Ph.tF.1 v).1,z_,p.mn,p.rl⟩,fun W x=> ?_⟩
  ·rw[<-p.eq,Bg,jO t]
  ·refine(uh x id l s t u).mono ?_
   rintro j w' ⟨rfl,o,m⟩
   exact⟨rfl,o,m.wide (fun k _ q=> .inr q)⟩
 ·obtain⟨O,N,rfl⟩:=List.append_of_mem u
  have r: ∀y∈L,y.1≠id:=fun y v j=>p.apart v (id,D) q_ j.symm
  refine⟨O++N,L,⟨?_,Gw p.nd,?_,p.lt,z_,p.mn,fun E I=>p.rl E ?_⟩,fun W x=> ?_⟩
  ·rw[<-p.eq,Bg,uw C.q.ids,Ph.FZ r]
  ·grind
  ·grind
  ·refine(ru x).mono ?_
   rintro j w' ⟨rfl,o,m⟩
   exact⟨rfl,o,m.wide (fun k _ q=> .inl q)⟩
def rN (h:dM w c e f d gh n a b M) {o:Nat} {k:Ke.K} (q:(o,k)∈M):
  aB 175 #[ak c,ab o] w fun j w'=>j= .returned (ab 0)/\dM w' c e f d gh n a b (cut o M)/\Fr (Own e f d gh) w w':=by
 obtain⟨R,L,p,r⟩:=h
 obtain⟨g,i,t,s⟩:=Nl p r q
 refine(s _ p).mono ?_
 rintro j w' ⟨rfl,m,l⟩
 exact⟨rfl,⟨g,i,m,t⟩,l⟩
def dM.C4 (h:dM w c e f d gh n a b []):St w c e f d gh n a b [] []:=by
 obtain⟨R,L,j,k⟩:=h
 have:=k.len
 simp at this
 obtain⟨rfl,rfl⟩:=this
 exact j
def Mu {y:En} (h:dM w c e f d gh n a b (y::M)):
  vQ 158 #[ak c] w (.tuple #[ab y.1,.agg (bn y.2),.bool true]):=by
 obtain⟨R,L,j,k⟩:=h
 exact Nc j k rfl
def oj {k:Ke.K} (m:Ke.aN k=true) (o:k.ok):(∃j:Nat,k=Ke.du j)\/ ∃lv:Nat,lv<256/\k=Ke.bP lv:=by
 obtain⟨h,j,l⟩:=k
 obtain⟨⟨s,r⟩,q,p⟩:=o
 simp only at s r q p
 cases h
 ·right
  simp[Ke.aN] at m
  refine⟨l.toNat,z_,?_⟩
  simp[Ke.bP,m]
  omega
 ·left
  simp[Ke.aN] at m
  refine⟨j.toNat,?_⟩
  simp[Ke.du,m]
  omega
theorem AN (h:dM w c e f d gh n a b M) (B:b<=1000000000) (r:Nat) (k:Ke.K) (hi:r<n) (F:Ke.aN k=true) (H:k.ok) (v:keyOf M r=none) (C:M.length<a):
  aB 148 #[ak c,ab r,.agg (bn k)] w fun j w'=>j= .returned (ab 0)/\dM w' c e f d gh n a (b+1) (put (r,k) M)/\Fr (jm c e f d gh) w w':=by
 have I:=h.Ka
 obtain⟨R,L,D,p⟩:=h
 have s:=cw.1 v
 have J:=p.len
 have G:=p.mn
 have N:=mT (x:=(r,k)) (M:=M)
 rcases oj F H with ⟨l,rfl⟩|⟨A,t,rfl⟩
 ·refine(CQ D B r l hi (p.rQ s) (p.rX s) z_ z_).mono ?_
  rintro j w' ⟨rfl,o,m⟩
  refine⟨rfl,⟨R,_,o,?_,qC p.nd s,by rw[Ph.oV];omega,fun y u=> ?_,z_,p.mn,p.rl⟩,m.wide (fun k _ q=> ?_)⟩
  ·rw[<-p.eq,vq R L r l b p.lt]
  ·rcases Ph.cQ.1 u with rfl|q
   ·simp
   ·exact Nat.lt_succ_of_lt (p.lt y q)
  ·unfold jm Own;omega
 ·refine(yo D B r A hi t (p.rQ s) (p.rX s) z_ z_).mono ?_
  rintro j w' ⟨rfl,o,m⟩
  refine⟨rfl,⟨_,L,o,?_,qC p.nd s,y_,fun y u=>Nat.lt_succ_of_lt (p.lt y u),z_,p.mn,fun E z=> ?_⟩,m.wide (fun k _ q=> ?_)⟩
  ·rw[<-p.eq,r5 R L r A t]
  ·rcases List.mem_append.1 z with q|q
   ·exact p.rl E q
   grind
  ·unfold jm Own;omega
def Ab (n a:Nat) (w:World) (x:1<=n) (v:n<=1024) (u:1<=a) (q:a<=n):
  aB 69 #[ab n,ab a] w fun j w'=> ∃c e f d gh,j= .returned (ak c)/\(∀k,jm c e f d gh k->w.heap.size<=k)/\dM w' c e f d gh n a 0 []/\aC w w':=by
 refine(JH n a w x v u q).mono ?_
 rintro j w' ⟨c,e,f,d,gh,rfl,p,o,m,l,h,s,t⟩
 refine⟨c,e,f,d,gh,rfl,fun k r=> ?_,⟨[],[],s,by rfl,q_,rfl,q_,q_,q,q_⟩,t⟩
 unfold jm Own at r
 omega
end
section
variable {w:World} {g i j f gh n b c:Nat} {R:List (Nat×Nat)} {L:List Ph.Item} {M:List En}
theorem jy (h:dM w g i j f gh n b c M): ∃R L,St w g i j f gh n b c R L/\iO n b c R L M:=h
def vJ (h:dM w g i j f gh n b c M) (a:Nat) (hi:a<n):
  vQ 174 #[.agg #[ak i,ak f],ab a] w (.tuple #[.agg (bn (kz (keyOf M a))),.bool (keyOf M a).isSome]):=by
 obtain⟨R,L,d,e⟩:=h
 exact Bh d e a hi
def KK (h:dM w g i j f gh n b c M):
  vQ 159 #[ak g] w (ab M.length):=by
 have d:=h.Ka
 obtain⟨R,L,e,a⟩:=h
 have m:=a.len
 have l:=a.fits
 have k:=a.mn
 grind[uu]
def Ap (h:dM w g i j f gh n b c M) (a:Int) (k:Ke.K) (f:a<0\/(n:Int)<=a\/Ke.aN k=false):
  vQ 173 #[ak g,ab a,.agg (bn k)] w (ab 2):=by
 obtain⟨R,L,l,_⟩:=h
 have z:=(l.below (cj.alloc aT (.cells (bn k) 120))).c2
 have m:Hid (aC w (w.alloc (.cells (bn k) 120))):=bq
 have s:=l.lt
 have x: ¬g=w.heap.size:=z_
 have v:=l.c2
 have r:=aa (fun W=>Ke.cf W k)
 clear l
 have o:a<0\/(¬a<0/\(n:Int)<=a)\/(¬a<0/\ ¬(n:Int)<=a/\Ke.aN k=false):=by
  grind
 clear f
 rcases o with q|⟨q,u⟩|⟨q,u,t⟩
 ·refine ge ?_
  go_wp2
  go_ret
  exact⟨rfl,m.out⟩
 ·refine ge ?_
  go_wp2
  go_ret
  exact⟨rfl,m.out⟩
 ·rw[t] at r
  refine ge ?_
  go_wp2_with (go_at_call 129;refine(r.out _).mono ?_;rintro e y ⟨rfl,d⟩;have p:=aa (m.out.trans (d.mono m.out.size));clear d)
  go_ret
  exact⟨rfl,p.out⟩
def mQ (h:dM w g i j f gh n b c M) (k:Ke.K): ∀W,Below (w.heap.size+1) (w.alloc (.cells (bn k) 120)) W->dM W g i j f gh n b c M/\(W.cell? (ao w.heap.size)=some (.bool k.e)/\W.cell? (af w.heap.size 1)=some (aj k.d)/\W.cell? (af w.heap.size 2)=some (aA k.l))/\(∀o,W.frozen? (af w.heap.size o)=false)/\w.heap.size+1<=W.heap.size/\aC w W:=fun W m=>by
 have q:=(i4 w.heap.size w).alloc aT (.cells (bn k) 120)
 have hz:(w.alloc (.cells (bn k) 120)).heap.size=w.heap.size+1:=q_
 refine⟨(h.below q).below (by rw[<-hz] at m;exact m),⟨?_,?_,?_⟩,fun o=> ?_,by rw[<-hz];exact m.size,q.trans (m.mono z_)⟩
 ·rw[m.cell (p:=(ao w.heap.size)) q_,bE];rfl
 ·rw[m.cell (p:=(af w.heap.size 1)) q_,bE];rfl
 ·rw[m.cell (p:=(af w.heap.size 2)) q_,bE];rfl
 ·rw[zV0 (a:=(af w.heap.size o)) (m.block w.heap.size z_)]
  simp
def jH (h:dM w g i j f gh n b c M) (a:Nat) (hi:a<n) (k:Ke.K) (d:Ke.aN k=true):
  vQ 173 #[ak g,ab a,.agg (bn k)] w (ab 0):=by
 obtain⟨R,L,e,_⟩:=h
 exact tH e a hi k d
def II (h:dM w g i j f gh n b c M) (q:Int) (k:Ke.K) (f:q<0\/(n:Int)<=q\/Ke.aN k=false):
  vQ 148 #[ak g,ab q,.agg (bn k)] w (ab 2):=by
 have A:=aa (mQ h k)
 have o:=aa (Ap (mQ h k _ cj).1 q k f)
 clear h f
 refine ge ?_
 go_wp2_with (go_at_call 173;refine(o.out).mono ?_;rintro e s ⟨rfl,m⟩;have r:=aa (show Below (w.heap.size+1) _ s by simpa [aC] using m);obtain⟨l,⟨v,u,t⟩,_,x,d⟩:=A.out _ r.out;have B:=aa l;have p:=aa d;obtain⟨C,D,a,_⟩:=jy l;have z:=a.c0;have y:=a.c1;clear m l a d)
 go_ret
 exact⟨rfl,p.out⟩
def yc (h:dM w g i j f gh n b c M) (r:Nat) (hi:r<n) (k:Ke.K) (Q:Ke.aN k=true) (O:Ke.K) (s:keyOf M r=some O):
  vQ 148 #[ak g,ab r,.agg (bn k)] w (ab 5):=by
 have C:=aa (mQ h k)
 have v:=aa (jH (mQ h k _ cj).1 r hi k Q)
 have A:=aa s
 clear h s
 refine ge ?_
 go_wp2_with (first|(go_at_call 173;refine(v.out).mono ?_;rintro e E ⟨rfl,u⟩;have x:=aa (show Below (w.heap.size+1) _ E by simpa [aC] using u);obtain⟨q,⟨N,J,I⟩,_,y,m⟩:=C.out _ x.out;have z:=aa q;have D:=aa m;obtain⟨Y,L1,a,_⟩:=jy q;have U:=a.c0;have T:=a.c1;clear u q a m)|(go_at_call 174;refine(vJ z.out r hi).mono ?_;rw[A.out];rintro e W ⟨rfl,t⟩;have B:=aa (x.out.trans (t.mono y));obtain⟨p,⟨H,G,F⟩,_,P,l⟩:=C.out _ B.out;have V:=aa p;have o:=aa l;obtain⟨X,Z,d,_⟩:=jy p;have S:=d.c3;clear t p d l))
 go_ret
 exact⟨rfl,o.out.alloc o.out.size _⟩
def sV (h:dM w g i j f gh n b c M) (u:Nat) (hi:u<n) (k:Ke.K) (hr:Ke.aN k=true) (x:keyOf M u=none) (hf:M.length=b):
  vQ 148 #[ak g,ab u,.agg (bn k)] w (ab 4):=by
 have I:=aa (mQ h k)
 have D:=aa (jH (mQ h k _ cj).1 u hi k hr)
 have a0:=aa x
 have a6:=h.Ka
 clear h x
 refine ge ?_
 go_wp2_with (first|(go_at_call 173;refine(D.out).mono ?_;rintro e w1 ⟨rfl,B⟩;have H:=aa (show Below (w.heap.size+1) _ w1 by simpa [aC] using B);obtain⟨t,⟨S,Q,P⟩,_,U,q⟩:=I.out _ H.out;have Z:=aa t;have a3:=aa q;obtain⟨R1,L1,a,_⟩:=jy t;have Y:=a.c0;have X:=a.c1;clear B t a q)|(go_at_call 174;refine(vJ Z.out u hi).mono ?_;rw[a0.out];rintro e w2 ⟨rfl,A⟩;have G:=aa (H.out.trans (A.mono U));obtain⟨s,⟨O,N,J⟩,_,T,p⟩:=I.out _ G.out;have a7:=aa s;have a2:=aa p;obtain⟨R2,L2,m,_⟩:=jy s;have W:=m.c3;clear A s m p))
 have C:=aa (show Below (w.heap.size+1) (w.alloc (.cells (bn k) 120)) ((w2.alloc (.cells #[.bool false,aj 0,aA 0] 120)).drew) from(G.out.alloc T _).drew)
 obtain⟨r,_,_,a5,y⟩:=I.out _ C.out
 have E:=aa (KK r)
 rw[hf] at E
 obtain⟨R3,L3,l,_⟩:=jy r
 have V:=l.c3
 clear r l y S Q P O N J Y X W hf
 go_region_held3 (fun w'=>w'.cell? (af g 3)=some (ab b))
  (first|exact c43|exact V|go_keep)
  (first|(go_at_call 159;refine(E.out).mono ?_;rintro e w3 ⟨rfl,z⟩;have a1:=aa (C.out.trans (z.mono z_));obtain⟨v,_,_,a4,o⟩:=I.out _ a1.out;have F:=aa o;obtain⟨R4,L4,d,_⟩:=jy v;have c43:=d.c3;clear z v d o))
 go_wp2
 go_ret
 exact⟨rfl,F.out⟩
def ON (h:dM w g i j f gh n b c M) (z:c<=1000000000) (o:Nat) (k:Ke.K) (hi:o<n) (D:Ke.aN k=true) (F:k.ok) (t:keyOf M o=none) (A:M.length<b):
  aB 176 #[ak g,ab o,.agg (bn k)] w fun e w'=>e=aS #[]/\dM w' g i j f gh n b (c+1) (put (o,k) M)/\Fr (jm g i j f gh) w w':=by
 have G:=h.Ka
 obtain⟨R,L,B,m⟩:=h
 have r:=cw.1 t
 have H:=m.len
 have E:=m.mn
 have I:=mT (x:=(o,k)) (M:=M)
 rcases oj D F with ⟨d,rfl⟩|⟨v,p,rfl⟩
 ·refine(sR B z o d hi (m.rX r)).mono ?_
  rintro e w' ⟨rfl,a,l⟩
  refine⟨rfl,⟨R,_,a,?_,qC m.nd r,by rw[Ph.oV];omega,fun y s=> ?_,z_,m.mn,m.rl⟩,l.wide (fun k _ q=> ?_)⟩
  ·rw[<-m.eq,vq R L o d c m.lt]
  ·rcases Ph.cQ.1 s with rfl|q
   ·simp
   ·exact Nat.lt_succ_of_lt (m.lt y q)
  ·unfold jm Own;omega
 ·refine(pS B z o v hi p (m.rQ r)).mono ?_
  rintro e w' ⟨rfl,a,l⟩
  refine⟨rfl,⟨_,L,a,?_,qC m.nd r,y_,fun y s=>Nat.lt_succ_of_lt (m.lt y s),z_,m.mn,fun C u=> ?_⟩,l.wide (fun k _ q=> ?_)⟩
  ·rw[<-m.eq,r5 R L o v p]
  ·rcases List.mem_append.1 u with q|q
   ·exact m.rl C q
   grind
  ·unfold jm Own;omega
def ze (h:dM w g i j f gh n b c M) (q:Int) (k:Ke.K) (f:q<0\/(n:Int)<=q\/Ke.aN k=false):
  vQ 135 #[ak g,ab q,.agg (bn k)] w (ab 2):=by
 have A:=aa (mQ h k)
 have o:=aa (Ap (mQ h k _ cj).1 q k f)
 clear h f
 refine ge ?_
 go_wp2_with (go_at_call 173;refine(o.out).mono ?_;rintro e s ⟨rfl,m⟩;have r:=aa (show Below (w.heap.size+1) _ s by simpa [aC] using m);obtain⟨l,⟨v,u,t⟩,_,x,d⟩:=A.out _ r.out;have B:=aa l;have p:=aa d;obtain⟨C,D,a,_⟩:=jy l;have z:=a.c0;have y:=a.c1;clear m l a d)
 go_ret
 exact⟨rfl,p.out⟩
def tL (h:dM w g i j f gh n b c M) (m:Nat) (hi:m<n) (k:Ke.K) (hr:Ke.aN k=true) (p:keyOf M m=none):
  vQ 135 #[ak g,ab m,.agg (bn k)] w (ab 6):=by
 have z:=aa (mQ h k)
 have u:=aa (jH (mQ h k _ cj).1 m hi k hr)
 have v:Hid (∀W,dM W g i j f gh n b c M->vQ 174 #[.agg #[ak i,ak f],ab m] W (.tuple #[.agg #[.bool false,aj 0,aA 0],.bool false])):=fun W C=>by
  have:=vJ C m hi
  rw[p] at this
  exact this
 have F:=aa fun W (C:dM W g i j f gh n b c M)=>by
  obtain⟨R,L,hS,J⟩:=C
  have I:=cw.1 p
  exact mG hS m hi (J.rQ I) (J.rX I)
 clear h p
 refine ge ?_
 go_wp2_with (first|(go_at_call 173;refine(u.out).mono ?_;rintro e O ⟨rfl,t⟩;have y:=aa (show Below (w.heap.size+1) _ O by simpa [aC] using t);obtain⟨o,⟨Z,Y,X⟩,_,B,l⟩:=z.out _ y.out;have E:=aa o;have N:=aa l;obtain⟨R1,L1,a,_⟩:=jy o;have a2:=a.c0;have a1:=a.c1;clear t o a l)|(go_at_call 174;refine(v.out _ E.out).mono ?_;rintro e H ⟨rfl,s⟩;have q:=aa (y.out.trans (s.mono B));have A:=(z.out _ q.out).2.2.2.1;have G:=aa (q.out.alloc A (.cells #[.bool false,aj 0,aA 0] 120));obtain⟨r,⟨S,Q,P⟩,_,a0,d⟩:=z.out _ G.out;have D:=aa r;have x:=aa d;have y0: ¬w.heap.size=H.heap.size:=z_;have y1: ¬H.heap.size=w.heap.size:=z_;obtain⟨_,⟨V,U,T⟩,_,_,_⟩:=z.out _ q.out;clear s r d)|(go_at_call 175;refine cS (F.out _ D.out) ?_))
 go_ret
 exact⟨rfl,x.out⟩
def uo (h:dM w g i j f gh n b c M) (p:Nat) (hi:p<n) (k:Ke.K) (X:Ke.aN k=true) (r:keyOf M p=some k):
  vQ 135 #[ak g,ab p,.agg (bn k)] w (ab 0):=by
 have z:=aa (mQ h k)
 have u:=aa (jH (mQ h k _ cj).1 p hi k X)
 have v:Hid (∀W,dM W g i j f gh n b c M->vQ 174 #[.agg #[ak i,ak f],ab p] W (.tuple #[.agg (bn k),.bool true])):=fun W Y=>by
  have:=vJ Y p hi
  rw[r] at this
  exact this
 have V:Ke.same k k=true:=by rw[Ke.Ay];simp
 clear h r
 refine ge ?_
 go_wp2_with (first|(go_at_call 173;refine(u.out).mono ?_;rintro e G ⟨rfl,t⟩;have y:=aa (show Below (w.heap.size+1) _ G by simpa [aC] using t);obtain⟨m,⟨T,S,Q⟩,_,B,l⟩:=z.out _ y.out;have C:=aa m;have F:=aa l;obtain⟨R1,L1,a,_⟩:=jy m;have a0:=a.c0;have Z:=a.c1;clear t m a l)|(go_at_call 174;refine(v.out _ C.out).mono ?_;rintro e E ⟨rfl,s⟩;have o:=aa (y.out.trans (s.mono B));have A:=(z.out _ o.out).2.2.2.1;have D:=aa (o.out.alloc A (.cells (bn k) 120));obtain⟨q,⟨J,I,H⟩,_,U,d⟩:=z.out _ D.out;have a1:=aa q;have x:=aa d;have y0: ¬w.heap.size=E.heap.size:=z_;have y1: ¬E.heap.size=w.heap.size:=z_;obtain⟨_,⟨P,O,N⟩,_,_,_⟩:=z.out _ o.out;clear s q d))
 go_ret
 exact⟨rfl,x.out⟩
theorem rI (h:dM w g i j f gh n b c M) (ht:c<=1000000000) (d:Nat) (hi:d<n) (k:Ke.K) (hr:Ke.aN k=true) (hk:k.ok) (A:Ke.K) (u:keyOf M d=some A) (a0:A≠k):
  aB 135 #[ak g,ab d,.agg (bn k)] w fun e w'=>e= .returned (ab 0)/\dM w' g i j f gh n b (c+1) (put (d,k) (cut d M))/\Fr (jm g i j f gh) w w':=by
 have T:=aa (mQ h k)
 have J:=aa (jH (mQ h k _ cj).1 d hi k hr)
 have O:Hid (∀W,dM W g i j f gh n b c M->vQ 174 #[.agg #[ak i,ak f],ab d] W (.tuple #[.agg (bn A),.bool true])):=fun W hW=>by
  have:=vJ hW d hi
  rw[u] at this
  exact this
 have b8:Ke.same A k=false:=by rw[Ke.Ay];grind
 obtain⟨R,L,hS,S⟩:=jy h
 have m:=(fI S.nd).1 u
 have N:=aa m
 have a1:=my S.nd m
 have F:=S.fits
 have a6:Hid (keyOf (cut d M) d=none):=cw.2 (fun y hy=>(ku.1 hy).2)
 have a7:Hid ((cut d M).length<b):=by unfold Hid;omega
 have E: ¬Own i j f gh w.heap.size:=by have:=h.blocks w.heap.size;intro q;exact absurd (this (.inr q)) z_
 have v:=aa E
 clear h u hS S m a1 F a0 E
 refine ge ?_
 go_wp2_with (first
  |(go_at_call 173;refine(J.out).mono ?_;rintro e w1 ⟨rfl,I⟩;have Q:=aa (show Below (w.heap.size+1) _ w1 by simpa [aC] using I);obtain⟨t,⟨b7,b6,b5⟩,_,Z,r⟩:=T.out _ Q.out;have a5:=aa t;have b1:=aa r;obtain⟨R1,L1,l,_⟩:=jy t;have c2:=l.c0;have b9:=l.c1;clear I t l r)
  |(go_at_call 174;refine(O.out _ a5.out).mono ?_;rintro e w2 ⟨rfl,H⟩;have x:=aa (Q.out.trans (H.mono Z));have Y:=(T.out _ x.out).2.2.2.1;have b0:=aa (x.out.alloc Y (.cells (bn A) 120));obtain⟨D,⟨X,V,U⟩,_,s,p⟩:=T.out _ b0.out;have a4:=aa D;have P:=aa p;have y0: ¬w.heap.size=w2.heap.size:=z_;have y1: ¬w2.heap.size=w.heap.size:=z_;obtain⟨_,⟨b4,b3,b2⟩,_,_,_⟩:=T.out _ x.out;clear H D p)
  |(go_at_call 175;refine(rN a4.out N.out).mono ?_;rintro e w4 ⟨rfl,C,o⟩;have a3:=aa C;have a9:=aa o;have m0:=(o.cell (a:=(ao w.heap.size)) s v.out).trans X;have m1:=(o.cell (a:=(af w.heap.size 1)) s v.out).trans V;have m2:=(o.cell (a:=(af w.heap.size 2)) s v.out).trans U;clear C o)
  |(go_at_call 176;refine(ON a3.out ht d k hi hr hk a6.out a7.out).mono ?_;rintro e w5 ⟨rfl,B,G⟩;have a2:=aa B;have a8:=aa (((Fr.aF P.out).trans (a9.out.wide (fun q _ z=>(.inr z:jm g i j f gh q)))).trans G);clear B G))
 go_ret
 exact⟨rfl,a2.out,a8.out⟩
end
end Go.Proofs.YtnmhcgpnhlhcgaaGreatDoor
namespace Go.Proofs.YtnmhcgpnhlhcgaaGreatDoor
open Go.RowKit
def nU (n:Nat) (a:Int) (k:Ke.K):Prop:=a<0\/(n:Int)<=a\/Ke.aN k=false
instance (n:Nat) (a:Int) (k:Ke.K):Decidable (nU n a k):=inferInstanceAs (Decidable (_\/_\/_))
def Mq (n a:Nat) (M:List En) (b:Int) (k:Ke.K):Int:=if nU n b k then 2 else if (keyOf M b.toNat).isSome then 5 else if M.length=a then 4 else 0
def Ed (n a:Nat) (M:List En) (b:Int) (k:Ke.K):List En:=if Mq n a M b k=0 then put (b.toNat,k) M else M
def jA (n:Nat) (M:List En) (a:Int) (k:Ke.K):Int:=if nU n a k then 2 else if (keyOf M a.toNat).isSome then 0 else 6
def fk (n:Nat) (M:List En) (a:Int) (k:Ke.K):List En:=if jA n M a k=0 then(if keyOf M a.toNat=some k then M else put (a.toNat,k) (cut a.toNat M)) else M
def DM (n:Nat) (M:List En) (a:Int):Int:=if a<0\/(n:Int)<=a then 2 else if (keyOf M a.toNat).isSome then 0 else 6
def Hz (n:Nat) (M:List En) (a:Int):List En:=if DM n M a=0 then cut a.toNat M else M
def KE:List En->Int
 |[]=>0
 |x::_=>(x.1:Int)
def oK:List En->Ke.K
 |[]=>⟨false,0,0⟩
 |x::_=>x.2
def MR:List En->Bool
 |[]=>false
 |_::_=>true
def nj (n:Nat) (M:List En) (a:Int) (k:Ke.K):nU n a k\/(∃i:Nat,a=i/\i<n/\Ke.aN k=true/\ ¬nU n (i:Int) k):=by
 by_cases h:nU n a k
 ·grind
 ·have b:=h
  unfold nU at b
  simp only[not_or] at b
  grind[Int.eq_ofNat_of_zero_le]
section
variable {w:World} {c e d b gh n most a:Nat} {M:List En}
theorem dM.nd (h:dM w c e d b gh n most a M):(M.map (·.1)).Nodup:=by obtain⟨_,_,_,f⟩:=h;exact f.nd
def dM.fit (h:dM w c e d b gh n most a M):M.length<=most:=by obtain⟨_,_,_,f⟩:=h;exact f.fits
def OA (h:dM w c e d b gh n most a M) (r:a<=1000000000) (j:Int) (k:Ke.K) (s:k.ok):
  aB 148 #[ak c,ab j,.agg (bn k)] w fun f w'=>f= .returned (ab (Mq n most M j k))/\(∃t,t<=a+1/\dM w' c e d b gh n most t (Ed n most M j k))/\Fr (jm c e d b gh) w w':=by
 unfold Ed Mq
 rcases nj n M j k with b|⟨i,rfl,hi,p,m⟩
 ·rw[if_pos b,if_neg x_]
  refine(II h j k b).mono ?_
  rintro f w' ⟨rfl,g⟩
  exact⟨rfl,⟨a,z_,h.below g⟩,Fr.aF g⟩
 ·rw[if_neg m]
  cases l:keyOf M (i:Int).toNat with
  |some q=>
   rw[if_pos mK,if_neg x_]
   refine(yc h i hi k p q l).mono ?_
   rintro f w' ⟨rfl,g⟩
   exact⟨rfl,⟨a,z_,h.below g⟩,Fr.aF g⟩
  |none=>
   rw[if_neg q_]
   by_cases o:M.length=most
   ·rw[if_pos o,if_neg x_]
    refine(sV h i hi k p l o).mono ?_
    rintro f w' ⟨rfl,g⟩
    exact⟨rfl,⟨a,z_,h.below g⟩,Fr.aF g⟩
   ·rw[if_neg o,if_pos rfl]
    have:=h.fit
    grind[AN,Calls.mono]
def wU (h:dM w c e d b gh n most a M) (r:a<=1000000000) (j:Int) (k:Ke.K) (s:k.ok):
  aB 135 #[ak c,ab j,.agg (bn k)] w fun f w'=>f= .returned (ab (jA n M j k))/\(∃t,t<=a+1/\dM w' c e d b gh n most t (fk n M j k))/\Fr (jm c e d b gh) w w':=by
 unfold fk jA
 rcases nj n M j k with b|⟨i,rfl,hi,q,m⟩
 ·rw[if_pos b,if_neg x_]
  refine(ze h j k b).mono ?_
  rintro f w' ⟨rfl,g⟩
  exact⟨rfl,⟨a,z_,h.below g⟩,Fr.aF g⟩
 ·rw[if_neg m]
  cases l:keyOf M (i:Int).toNat with
  |none=>
   rw[if_neg q_,if_neg x_]
   refine(tL h i hi k q l).mono ?_
   rintro f w' ⟨rfl,g⟩
   exact⟨rfl,⟨a,z_,h.below g⟩,Fr.aF g⟩
  |some p=>
   rw[if_pos mK,if_pos rfl]
   by_cases o:p=k
   ·subst o
    rw[if_pos rfl]
    refine(uo h i hi p q l).mono ?_
    rintro f w' ⟨rfl,g⟩
    exact⟨rfl,⟨a,z_,h.below g⟩,Fr.aF g⟩
   ·rw[if_neg y_]
    grind[rI,Calls.mono]
theorem Own.wide {k:Nat} (h:Own e d b gh k):jm c e d b gh k:= .inr h
def uI (h:dM w c e d b gh n most a M) (g:Int):
  aB 175 #[ak c,ab g] w fun f w'=>f= .returned (ab (DM n M g))/\(∃t,t<=a+1/\dM w' c e d b gh n most t (Hz n M g))/\Fr (jm c e d b gh) w w':=by
 unfold Hz DM
 by_cases b:g<0\/(n:Int)<=g
 ·rw[if_pos b,if_neg x_]
  grind[jy,rG,Calls.mono,Fr.refl]
 ·rw[if_neg b]
  obtain⟨i,rfl⟩:=yY0 (show 0<=g by omega)
  cases j:keyOf M (i:Int).toNat with
  |none=>
   rw[if_neg q_,if_neg x_]
   obtain⟨R,L,m,l⟩:=jy h
   have k:=cw.1 j
   refine(mG m i z_ (l.rQ k) (l.rX k)).mono ?_
   grind[Fr.refl]
  |some o=>
   rw[if_pos mK,if_pos rfl]
   refine(rN h ((fI h.nd).1 j)).mono ?_
   grind[Fr.wide,Own.wide]
def FD (h:dM w c e d b gh n most a M):
  vQ 158 #[ak c] w (.tuple #[ab (KE M),.agg (bn (oK M)),.bool (MR M)]):=by
 cases M with
 |nil=>exact Ck h.C4
 |cons x M=>exact Mu h
end
section
variable {w:World} {a c n b:Nat} {v:Value} {M:List En}
end
section
variable {w l e:World} {c i k h g gh f n d b a:Nat} {v j:Value} {M m:List En}
end
end Go.Proofs.YtnmhcgpnhlhcgaaGreatDoor
