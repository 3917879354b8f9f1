/- YtnmhcgpnhlhcgaaGreatDoorKg: of the texts Na Nb Nc what is wanted. -/
import Derived.Test.YtnmhcgpnhlhcgaaGreatDoorK0
import Derived.Test.YtnmhcgpnhlhcgaaGreatDoorKb
import Derived.Test.YtnmhcgpnhlhcgaaGreatDoorKz
import Derived.Deep.RegionHeld3
import Derived.Maps.AppendAt
import Derived.OrdersHeld
import Derived.Carry
import Derived.Test.YtnmhcgpnhlhcgaaGreatDoorKa
import Derived.RangeFuncNested
import Derived.RangeFuncBound
import Derived.RangeFuncCalls
import Derived.RangeFuncLeaves
import Derived.RangeFuncBox
import Derived.Shelf.Abstract
import Derived.Shelf.RegionOpen
import Derived.WalkKit
import Derived.OwnWalkIn
import Derived.TacticsInMore
import Derived.LoopNIn
import Derived.LoopIn
import Derived.Scope
import Derived.ControlIn
import Derived.ProofKit
import Derived.OpenShut
import Derived.RowKit3
import Derived.Laws.IdiomArrays
import Derived.WideShapes
import Derived.ChangeOld
import Derived.Deep.Strs
import Derived.Deep.Slices
set_option maxHeartbeats 16000000
set_option maxRecDepth 100000
set_option linter.unusedVariables false
set_option linter.defProp false
set_option linter.unusedSimpArgs false
namespace Go.Proofs.YtnmhcgpnhlhcgaaGreatDoor
open Go.RowKit Go.Lib
attribute [local go_sem ↓] Go.wp_at_zero Go.wp_at_succ
structure Hd where
 sb:Nat
 qb:Nat
 gq:Nat
 hb:Nat
 gh:Nat
 turn:Nat
 M:List En
def Hd.own (h:Hd) (k:Nat):Prop:=jm h.sb h.qb h.gq h.hb h.gh k
def Hd.is (h:Hd) (w:World) (n a:Nat):Prop:=dM w h.sb h.qb h.gq h.hb h.gh n a h.turn h.M
def lE (H:List Hd):List Value:=H.map (fun h=>ak h.sb)
structure Sets (w:World) (lo n:Nat) (mo:Nat->Nat) (H:List Hd):Prop where
 it: ∀(i:Nat) (h:Hd),H[i]? =some h->h.is w n (mo i)
 low: ∀(i:Nat) (h:Hd),H[i]? =some h-> ∀k,h.own k->lo<=k
 apart: ∀(i j:Nat) (h h':Hd),H[i]? =some h->H[j]? =some h'->i≠j-> ∀k,h.own k-> ¬h'.own k
section
variable {w w':World} {lo n:Nat} {a:Nat->Nat} {H:List Hd}
def Hd.is.blocks {h:Hd} {b:Nat} (q:h.is w n b): ∀k,h.own k->k<w.heap.size:=dM.blocks q
def Sets.nil (w:World) (lo n:Nat) (a:Nat->Nat):Sets w lo n a []:=⟨q_,q_,q_⟩
def Sets.below (h:Sets w lo n a H) (c:aC w w'):Sets w' lo n a H:=⟨fun i x b=>dM.below (h.it i x b) c,h.low,h.apart⟩
def Sets.frame {S:Nat->Prop} (h:Sets w lo n a H) (d:Fr S w w') (c: ∀(i:Nat) (x:Hd),H[i]? =some x-> ∀k,x.own k-> ¬S k):Sets w' lo n a H:=⟨fun i x b=>dM.frame (h.it i x b) d (c i x b),h.low,h.apart⟩
def Sets.snoc (h:Sets w lo n a H) {x:Hd} (f:x.is w n (a H.length)) (l: ∀k,x.own k->lo<=k) (g: ∀(i:Nat) (y:Hd),H[i]? =some y-> ∀k,y.own k-> ¬x.own k):Sets w lo n a (H++[x]):=by
 have b: ∀i y,(H++[x])[i]? =some y->H[i]? =some y\/(i=H.length/\y=x):=by
  grind
 refine⟨fun i y c=> ?_,fun i y c=> ?_,fun i j y z c hz d=> ?_⟩
 ·rcases b i y c with q|⟨rfl,rfl⟩
  ·exact h.it i y q
  ·exact f
 ·rcases b i y c with q|⟨rfl,rfl⟩
  ·exact h.low i y q
  omega
 ·rcases b i y c with q|⟨rfl,rfl⟩
  ·rcases b j z hz with e|⟨rfl,rfl⟩
   ·exact h.apart i j y z q e d
   grind
  grind
def Sets.set (h:Sets w lo n a H) {i:Nat} {x y:Hd} (g:H[i]? =some x) (u:Fr x.own w w') (t:y.is w' n (a i)) (p: ∀k,y.own k↔x.own k):Sets w' lo n a (H.set i y):=by
 have hi:i<H.length:=(i6.1 g).1
 have b: ∀j z,(H.set i y)[j]? =some z->(j=i/\z=y)\/(j≠i/\H[j]? =some z):=by
  grind
 refine⟨fun j z hz=> ?_,fun j z hz k e=> ?_,fun j l z m hz f d k e=> ?_⟩
 ·rcases b j z hz with ⟨rfl,rfl⟩|⟨q,c⟩
  ·exact t
  ·exact dM.frame (h.it j z c) u (h.apart j i z x c g q)
 ·rcases b j z hz with ⟨rfl,rfl⟩|⟨q,c⟩
  ·exact h.low j x g k ((p k).1 e)
  ·exact h.low j z c k e
 ·rcases b j z hz with ⟨rfl,rfl⟩|⟨q,c⟩
  ·rcases b l m f with ⟨rfl,rfl⟩|⟨r,o⟩
   ·omega
   ·exact h.apart j l x m g o d k ((p k).1 e)
  ·rcases b l m f with ⟨rfl,rfl⟩|⟨r,o⟩
   ·exact fun s=>h.apart j l z x c g d k e ((p k).1 s)
   ·exact h.apart j l z m c o d k e
end
structure xH (w0 wr:World) (n:Nat) (mo:Nat->Nat) (v:Value) (H:List Hd):Prop where
 blk:wr.heap[w0.heap.size+1]? =some (.cells #[v,.map (some w0.heap.size),ab n] 168 (0,0))
 row:wr.ownsRow (w0.heap.size+2) 169 1 v H.length (lE H)
 sets:Sets wr (w0.heap.size+2) n mo H
 fresh: ∀(i:Nat) (h:Hd),H[i]? =some h->h.M=[]/\h.turn=0
 map:bU wr w0.heap.size (fun _=>none) 0
 sep: ∀(i:Nat) (h:Hd),H[i]? =some h-> ∀k,h.own k->v.ownBlock≠some k
 jC:aC w0 wr
 big:w0.heap.size+2<=wr.heap.size
def Dc.bN {w:World} {a:Nat} {e:TypeId} {b:Nat} {v:Value} {n:Nat} {d:List Value} (h:w.ownsRow a e b v n d): ∀k,v.ownBlock=some k->a<=k/\k<w.heap.size:=by
 intro k c
 rcases h.2 with ⟨rfl,_⟩|⟨g,i,f,rfl,l,j,_⟩
 ·simp[Value.ownBlock] at c
 ·simp[Value.ownBlock] at c
  grind
section
variable {b wr d w3:World} {n:Nat} {e:Nat->Nat} {v c:Value} {H:List Hd} {x:Hd}
theorem xH.cell (h:xH b wr n e v H) {W:World} (a:aC wr W):W.cell? (ao (b.heap.size+1))=some v:=by
 rw[a.cell (p:=(ao (b.heap.size+1))) (by have:=h.big;grind)]
 unfold World.cell?
 simp only[h.blk]
 rfl
def xH.Pw (h:xH b wr n e v H) {W:World} (a:aC wr W):W.ownsRow (b.heap.size+2) 169 1 v H.length (lE H):=
 zU h.row (Fr.aF (S:=fun _=>False) a) (fun _ _ _ q=>q)
def xH.step (h:xH b wr n e v H) (F:x.is d n (e H.length)) (O:x.M=[]/\x.turn=0) (I: ∀k,x.own k->wr.heap.size<=k) (L:aC wr d)
  (o:Obj) (G:w3.ownsRow (b.heap.size+2) 169 1 c (H.length+1) (lE H++[ak x.sb])) (p:(d.alloc o).grownBy w3 v.ownBlock) (E:c.ownBlock=v.ownBlock\/c.ownBlock=some (d.alloc o).heap.size):
  w3.cell? (ao (b.heap.size+1))=some v/\w3.frozen? (ao (b.heap.size+1))=false/\xH b (w3.setCell (ao (b.heap.size+1)) c) n e c (H++[x]):=by
 have J:=h.big
 have D:=L.size
 have hz:(d.alloc o).heap.size=d.heap.size+1:=q_
 have z:=Dc.bN h.row
 have N:=F.blocks
 have C:Fr (fun k=>some k=v.ownBlock) wr (d.alloc o):=Fr.aF (L.alloc D o)
 have t:Fr (fun k=>some k=v.ownBlock) (d.alloc o) w3:=⟨p.os,p.tape,p.output,p.size,p.block⟩
 have s:=C.trans t
 have B: ¬(some (b.heap.size+1)=v.ownBlock):=fun f=>by grind
 have P: ¬(some b.heap.size=v.ownBlock):=fun f=>by grind
 have u:w3.heap[b.heap.size+1]? =some (.cells #[v,.map (some b.heap.size),ab n] 168 (0,0)):=by
  rw[s.block _ z_ B];exact h.blk
 have A:=Dc.bN G
 have m:c.ownBlock≠some (b.heap.size+1):=fun f=>by grind
 have l:Fr (fun k=>some k=v.ownBlock\/k=b.heap.size+1) wr (w3.setCell (ao (b.heap.size+1)) c):=(s.wide (fun k _ q=> .inl q)).setCell (a:=(ao (b.heap.size+1))) (.inr rfl) _
 have w:Fr (fun k=>some k=v.ownBlock\/k=b.heap.size+1) d (w3.setCell (ao (b.heap.size+1)) c):=((((Fr.refl _ _).alloc o).trans t).wide (fun k _ q=> .inl q)).setCell (a:=(ao (b.heap.size+1))) (.inr rfl) _
 refine⟨by unfold World.cell?;grind,by unfold World.frozen?;grind,?_⟩
 refine⟨Go.Joins.block_setCell u c,?_,?_,?_,?_,?_,?_,?_⟩
 ·rw[List.length_append]
  have f:lE (H++[x])=lE H++[ak x.sb]:=by unfold lE;simp
  rw[f]
  exact ownsRow_setCell_other G m c
 ·refine Sets.snoc (h.sets.frame l ?_) (dM.frame F w ?_) (fun k j=>by grind) ?_
  ·rintro i y g k j (q|q)
   ·exact h.sep i y g k j q.symm
   ·have:=h.sets.low i y g k j;omega
  ·rintro k j (q|q)
   ·have:=(z k q.symm).2;have:=I k j;omega
   ·have:=I k j;omega
  ·intro i y g k j R
   have:=(h.sets.it i y g).blocks k j
   grind
 ·intro i y g
  rcases Nat.lt_or_ge i H.length with q|q
  ·rw[List.getElem?_append_left q] at g
   exact h.fresh i y g
  grind
 ·exact h.map.block (l.block _ z_ y_)
 ·intro i y g k j f
  have Q:k<d.heap.size:=by
   rcases Nat.lt_or_ge i H.length with q|q
   ·rw[List.getElem?_append_left q] at g
    have:=(h.sets.it i y g).blocks k j
    omega
   grind
  rcases E with q|q
  ·rw[q] at f
   rcases Nat.lt_or_ge i H.length with r|r
   ·rw[List.getElem?_append_left r] at g
    exact h.sep i y g k j f
   grind
  grind
 ·exact h.jC.trans (l.below z_ (by
   grind))
 ·have:=l.size
  omega
end
def xd {P:Program} {e:TypeId} {z:Value} {n m:Nat} (h:(P.info? e).map (fun i=>(i.zero,i.size,i.bytes))=some (some z,n,m)): ∃i,P.info? e=some i/\i.zero=some z/\i.size=n/\i.bytes=m:=by
 simp_all
theorem Fb:(Tryz.prog.info? 169).map (fun i=>(i.zero,i.size,i.bytes))=some (some (.pointer none),1,8):=by rfl
def jI {P:Program} (w:World) {y:Array Oper} {o:Oper} {a:Act} {K:Act->World->Prop} {Q:Exit->Act->World->Prop} {E:Prop} (F:o.guard=none) (s x:Operand) (t:TypeId)
  (O:o.op= .call {callee:= .builtin .append,args:= #[s,x],argTypes:= #[t,t]})
  (f:Nat) (e:TypeId) (i:TypeInfo) (z:Value) (b bytes:Nat) (L:P.underlying t=some (.slice e)) (hi:P.info? e=some i) (hz:i.zero=some z)
  (k:i.size=b) (G:i.bytes=bytes) (C:z.cells.size=b) (D:0<b)
  (v:Value) (n:Nat) (B:List Value) (M:a.eval s=v) (A:w.ownsRow f e b v n B)
  (I:Addr) (m c:Nat) (d:List Value) (J:a.eval x= .slice (some I) m c) (R:d.length=m*b) (l: ∀j u,d[j]? =some u->w.cell? (I.add j)=some u) (V: ∀u∈d,u.oneCell'=true)
  (H:n+m<=maxLen) (g:(n+m)*bytes<=140737488355328) (p:f<=w.heap.size)
  (h: ∀q r,r.ownsRow f e b q (n+m) (B++d)->w.grownBy r v.ownBlock->(q.ownBlock=v.ownBlock\/q.ownBlock=some w.heap.size)->K (a.put o.dst q) r):
  if Region.wanted o (yielded y a.tmps)=true then Oper.wp P o a w K Q else E:=by
 have hw:Region.wanted o (yielded y a.tmps)=true:=by simp[Region.wanted,F]
 rw[if_pos hw]
 obtain⟨q,r,N,U,T,W,S⟩:=run_append_own_at (P:=P) w f t o.type e i z b bytes L hi hz k G C D v n B A I m c d R l V H g p
 unfold Oper.wp execOp
 simp only[O,resolve,invoke,builtin,Sem.run_bind,Sem.run_pure,Result.andThen_ok,List.map_toArray,List.map_cons,List.map_nil,M,J,N]
 exact h q r U T S
def lr {B:Nat} {e w w':World} (h:Below B w w') (a:w.heap=e.heap) (b:w.os=e.os) (c:w.tape=e.tape) (d:w.output=e.output):Below B e w':=
 ⟨h.os.trans b,h.tape.trans c,h.output.trans d,by rw[<-a];exact h.size,fun k f=>(h.block k f).trans (by rw[a])⟩
def OB (b wr:World) (n:Nat) (h:Nat->Nat) (a:Option Addr) (c:Nat) (H:List Hd) (g:Nat):Prop:=
 ∀(d:World) (x:Hd),x.is d n g->x.M=[]/\x.turn=0->(∀k,x.own k->wr.heap.size<=k)->aC wr d->
  d.cell? (ao (b.heap.size+1))=some (.slice a H.length c)/\(∀o,(d.alloc o).cell? (ao (b.heap.size+1))=some (.slice a H.length c))/\
  Hid (∀W:World,W.heap=(d.alloc (.cells #[ak x.sb] 169)).heap->W.ownsRow (b.heap.size+2) 169 1 (.slice a H.length c) H.length (lE H))/\
  Hid (∀W:World,W.heap=(d.alloc (.cells #[ak x.sb] 169)).heap->b.heap.size+2<=W.heap.size)/\
  Hid (∀(W e:World) (f:Value),W=d.alloc (.cells #[ak x.sb] 169)->e.ownsRow (b.heap.size+2) 169 1 f (H.length+1) (lE H++[ak x.sb])->W.grownBy e (Value.ownBlock (.slice a H.length c))->(f.ownBlock=Value.ownBlock (.slice a H.length c)\/f.ownBlock=some W.heap.size)->
   e.cell? (ao (b.heap.size+1))=some (.slice a H.length c)/\e.frozen? (ao (b.heap.size+1))=false/\xH b (e.setCell (ao (b.heap.size+1)) f) n h f (H++[x]))
theorem xH.after {p wr:World} {n:Nat} {i:Nat->Nat} {a:Option Addr} {c:Nat} {H:List Hd} (h:xH p wr n i (.slice a H.length c) H) (most:Nat) (u:i H.length=most):OB p wr n i a c H most:=by
 intro A x r j t d
 have b:=fun o=>d.alloc d.size o
 refine⟨h.cell d,fun o=>h.cell (b o),fun W f=> ?_,fun W f=> ?_,fun W z B f s v k=> ?_⟩
 ·have:=h.Pw (b (.cells #[ak x.sb] 169))
  refine⟨this.1,?_⟩
  rcases this.2 with q|⟨g,m,l,e,y,C,w⟩
  ·grind
  ·exact .inr ⟨g,m,l,e,y,y_,w⟩
 ·rw[f]
  have:=h.big
  have:=(b (.cells #[ak x.sb] 169)).size
  omega
 ·subst f
  exact h.step (by rw[u];exact r) j t d _ s v k
def mY (a n q:Nat):Nat->Nat:=fun i=>if i<a then min q n else n
def tZ (np n q:Nat) (w:World) (h1:1<=np) (h2:np<=64) (Y:1<=n) (X:n<=1024) (h5:1<=q) (h6:q<=256):
  aB 36 #[ab np,ab n,ab q] w fun e P=> ∃v H,e= .returned (ak (w.heap.size+1))/\H.length=np+1/\xH w P n (mY np n q) v H:=by
 obtain⟨V,O,G,F,E⟩:=xd Fb
 have a0:= @run_makeMap Tryz.prog
 have e1: ¬(np:Int)<1:=z_
 have e2: ¬(64:Int)<(np:Int):=z_
 have e3: ¬(n:Int)<1:=z_
 have e4: ¬(1024:Int)<(n:Int):=z_
 have e5: ¬(q:Int)<1:=z_
 have e6: ¬(256:Int)<(q:Int):=z_
 have U:Hid (xH w ((w.alloc (.map #[] 0)).alloc (.cells #[.slice none 0 0,.map (some w.heap.size),ab n] 168)) n (mY np n q) (.slice none 0 0) []):=by
  have hz:(w.alloc (.map #[] 0)).heap.size=w.heap.size+1:=q_
  refine⟨?_,World.ownsRow_nil _ _ _ _,Sets.nil _ _ _ _,q_,?_,q_,bq.alloc q_ _,q_⟩
  ·rw[<-hz];exact heap_alloc_new _ _
  ·exact(bU.made w).block (zU0 _ _ _ q_)
 refine ge ?_
 go_wp2
 go_loopw [35] (fun i wr=> ∃(j:Nat) (v:Value) (H:List Hd),j<=np/\H.length=j/\i=ab j/\xH w wr n (mY np n q) v H) (fun i _=>np-(intOf i).toNat)
 case atStart=>exact⟨0,_,_,z_,rfl,rfl,U.out⟩
 case round=>
  obtain⟨j,v,H,hj,Q,rfl,r⟩:=hrel
  obtain⟨a,c,rfl⟩:=Dc.aJ r.row
  by_cases a1:j<np
  ·have N:(j:Int)<np:=by omega
   have c0:=r.cell cj
   have o:Hid (∀W,aB 69 #[ab n,ab (if n<q then(n:Int) else(q:Int))] W fun e P=> ∃p z B A gh,e= .returned (ak p)/\(∀k,jm p z B A gh k->W.heap.size<=k)/\dM P p z B A gh n (min q n) 0 []/\aC W P):=fun W=>by
    have e:(if n<q then(n:Int) else(q:Int))=((min q n:Nat):Int):=z_
    rw[e]
    exact Ab n (min q n) W Y X z_ z_
   have y:=aa (r.after (min q n) (by unfold mY;grind))
   have g:=aa Q
   have M:H.length<=64:=z_
   clear r Q
   go_wp2
   refine wp_region_held_drew (S:=(fun _=>True)) (by rfl) ?_ (fun hHeld=> ?_)
   ·trivial
   refine st ?_
   repeat' first
    |refine dn ?_
    |refine tk ?_
    |refine rd ?_
    |exact oA
    |refine oE ?_
    |refine oC ?_ ?_
    | (refine dU 9 (fun K d=> ?_)
       go_simp
       go_at_call 69
       refine(o.out _).mono ?_
       rintro e D ⟨p,z,B,A,gh,rfl,L,J,l⟩
       obtain⟨k1,k2,m,t,x⟩:=y.out D ⟨p,z,B,A,gh,0,[]⟩ J ⟨rfl,rfl⟩ L (by exact lr l rfl rfl rfl rfl)
       clear L J l
       refine d.out _ _ ?_ (fun hHeld=> ?_)
       ·trivial
       clear d K
       try simp only[cV])
    | (refine dU 11 (fun K d=> ?_)
       refine jI _ (by rfl) _ _ _ (by rfl) (w.heap.size+2) 169 V (.pointer none) 1 8 Tryz.underlying166 O G F E rfl z_ (.slice a H.length c) H.length (lE H) (by rfl) (by exact m.out _ rfl) (ao D.heap.size) 1 1 [ak p] (by rfl) rfl (by exact cell_one_new _ _ _) (by intro u I;simp at I;rw[I];rfl) (by unfold maxLen;omega) z_ (by exact t.out _ rfl) ?_
       intro T R f h b
       obtain⟨z1,Z,C⟩:=x.out _ R T rfl f h b
       have s:=aa C
       obtain⟨a',c',rfl⟩:=Dc.aJ f
       clear C f h b
       refine d.out _ _ ?_ (fun hHeld=> ?_)
       ·trivial
       clear d K
       try simp only[cV])
    | (refine dU _ (fun K d=> ?_)
       go_simp
       refine d.out _ _ ?_ (fun hHeld=> ?_)
       ·trivial
       clear d K
       try simp only[cV])
   all_goals
    refine⟨?_⟩
    go_wp2
    go_roundw
    case rel=>exact⟨j+1,_,_,z_,by have:=g.out;grind,by go_num,s.out⟩
    case measure=>simp[intOf];omega
  ·have N: ¬(j:Int)<np:=by omega
   have c0:=r.cell cj
   have o:=aa (fun W=>Ab n n W Y X z_ z_)
   have y:=aa (r.after n (by unfold mY;grind))
   have g:=aa Q
   have M:H.length<=64:=z_
   clear r Q
   go_wp2
   refine wp_region_held_drew (S:=(fun _=>True)) (by rfl) ?_ (fun hHeld=> ?_)
   ·trivial
   refine st ?_
   repeat' first
    |refine dn ?_
    |refine tk ?_
    |refine rd ?_
    |exact oA
    |refine oE ?_
    |refine oC ?_ ?_
    | (refine dU 7 (fun K d=> ?_)
       go_simp
       go_at_call 69
       refine(o.out _).mono ?_
       rintro e D ⟨p,z,B,A,gh,rfl,L,J,l⟩
       obtain⟨k1,k2,m,t,x⟩:=y.out D ⟨p,z,B,A,gh,0,[]⟩ J ⟨rfl,rfl⟩ L (by exact lr l rfl rfl rfl rfl)
       clear L J l
       refine d.out _ _ ?_ (fun hHeld=> ?_)
       ·trivial
       clear d K
       try simp only[cV])
    | (refine dU 9 (fun K d=> ?_)
       refine jI _ (by rfl) _ _ _ (by rfl) (w.heap.size+2) 169 V (.pointer none) 1 8 Tryz.underlying166 O G F E rfl z_ (.slice a H.length c) H.length (lE H) (by rfl) (by exact m.out _ rfl) (ao D.heap.size) 1 1 [ak p] (by rfl) rfl (by exact cell_one_new _ _ _) (by intro u I;simp at I;rw[I];rfl) (by unfold maxLen;omega) z_ (by exact t.out _ rfl) ?_
       intro T R f h b
       obtain⟨z1,Z,C⟩:=x.out _ R T rfl f h b
       have s:=aa C
       obtain⟨a',c',rfl⟩:=Dc.aJ f
       clear C f h b
       refine d.out _ _ ?_ (fun hHeld=> ?_)
       ·trivial
       clear d K
       try simp only[cV])
    | (refine dU _ (fun K d=> ?_)
       go_simp
       refine d.out _ _ ?_ (fun hHeld=> ?_)
       ·trivial
       clear d K
       try simp only[cV])
   all_goals
    refine⟨?_⟩
    go_wp2
    go_ret
    first|exact⟨_,_,rfl,(by have:=g.out;simp;omega),s.out⟩|exact⟨_,rfl,_,_,rfl,(by have:=g.out;simp;omega),s.out⟩|exact⟨rfl,_,_,(by have:=g.out;grind),s.out⟩|exact⟨_,_,(by have:=g.out;simp;omega),s.out⟩|exact⟨_,rfl,_,(by have:=g.out;simp;omega),s.out⟩
def aV (n:Nat):List Hd->Int->Int->Option Int
 |[],_,_=>none
 |h::H,i,a=>if ((if 0<=a/\a<(n:Int) then keyOf h.M a.toNat else none:Option Ke.K)).isSome then some i else aV n H (i+1) a
def dR (H:List Hd):Nat:=(H.map (fun h=>h.M.length)).sum
structure jd (w:World) (base lo pb mb n np q:Nat) (v:Value) (H:List Hd):Prop where
 n1:1<=n/\n<=1024
 np1:1<=np/\np<=64
 q1:1<=q/\q<=256
 blk:w.heap[pb]? =some (.cells #[v,.map (some mb),ab n] 168 (0,0))
 row:w.ownsRow base 169 1 v H.length (lE H)
 len:H.length=np+1
 sets:Sets w lo n (mY np n q) H
 map:bU w mb (aV n H 0) (dR H)
 sep: ∀(i:Nat) (h:Hd),H[i]? =some h-> ∀k,h.own k->v.ownBlock≠some k/\k≠pb/\k≠mb
 ne:pb≠mb/\v.ownBlock≠some pb/\v.ownBlock≠some mb
section
variable {w:World} {base lo a b n np q:Nat} {v:Value} {H:List Hd}
theorem jd.c0 (h:jd w base lo a b n np q v H):w.cell? (ao a)=some v:=by unfold World.cell?;simp only[h.blk];rfl
theorem jd.c1 (h:jd w base lo a b n np q v H):w.cell? (af a 1)=some (.map (some b)):=by unfold World.cell?;simp only[h.blk];rfl
theorem jd.c2 (h:jd w base lo a b n np q v H):w.cell? (af a 2)=some (ab n):=by unfold World.cell?;simp only[h.blk];rfl
def A9 (np:Nat) (h:np<=64):IntKind.i64.wrap (((np+1:Nat):Int)-1)=(np:Int):=by
 simp[IntKind.wrap,IntKind.bits,IntKind.signed]
 omega
def yJ (h:jd w base lo a b n np q v H):
  vS 149 #[ak a] w (ab np):=by
 obtain⟨d,c,rfl⟩:=Dc.aJ h.row
 have f:=h.c0
 rw[h.len] at f
 have e:=h.np1
 have hw:=A9 np e.2
 clear h
 refine ge ?_
 go_wp2
 go_ret
 simp
def Jy (h:jd w base lo a b n np q v H):
  vS 156 #[ak a] w (ab (dR H:Int)):=by
 have d:=h.c1
 have c:=h.map.len
 clear h
 refine ge ?_
 go_wp2
 go_ret
 simp
def tJ (h:jd w base lo a b n np q v H) (p:Int):
  vS 147 #[ak a,ab p] w (.bool (decide (0<=p/\p<(np:Int)))):=by
 have f:=aa (yJ h)
 clear h
 by_cases d:0<=p
 ·by_cases c:p<(np:Int)
  ·have e:decide (0<=p/\p<(np:Int))=true:=xZ0 ⟨d,c⟩
   rw[e]
   refine ge ?_
   go_wp2_with (go_at_call 149;refine cS f.out ?_)
   go_ret
   simp
  ·have e:decide (0<=p/\p<(np:Int))=false:=yU0 (fun q=>c q.2)
   rw[e]
   refine ge ?_
   go_wp2_with (go_at_call 149;refine cS f.out ?_)
   go_ret
   simp_all
 ·have e:decide (0<=p/\p<(np:Int))=false:=yU0 (fun q=>d q.1)
  rw[e]
  have g:p<0:=z_
  refine ge ?_
  go_wp2
  go_ret
  simp
end
section
variable {w:World} {a lo b c n np q:Nat} {v:Value} {H:List Hd}
def jd.rows (h:jd w a lo b c n np q v H): ∃g d,v= .slice (some (ao g)) (np+1) d/\a<=g/\g<w.heap.size/\ ∀(i:Nat) (x:Hd),H[i]? =some x->w.cell? (af g i)=some (ak x.sb):=by
 have l:=h.len
 obtain⟨g,d,e,o,m⟩:=World.ownsRow.form h.row z_
 have j:=e
 rw[l] at j
 refine⟨g,d,j,o,m,fun i x k=> ?_⟩
 have hi:i<H.length:=(i6.1 k).1
 have f:=h.row
 rw[e] at f
 rw[World.ownsRow.cellAt f i z_]
 unfold lE
 grind
def Bd (h:jd w a lo b c n np q v H) (d:Int) (hi:(Lit.int .i64 d).wf=true) (i:Nat) (x:Hd) (f:H[i]? =some x) (hw:aV n H 0 d=some (i:Int)):
  vS 134 #[ak b,ab d] w (ak x.sb):=by
 have s:=h.c1
 have j:=h.map.look d hi
 rw[hw] at j
 simp only[Option.getD_some,Option.isSome_some] at j
 obtain⟨g,p,e,_,_,k⟩:=h.rows
 have r:=h.c0
 rw[e] at r
 have o:=k i x f
 have m:i<np+1:=by have:=(i6.1 f).1;have:=h.len;omega
 have l:=h.np1
 clear h k hw f
 refine ge ?_
 go_wp2
 go_ret
 simp
def nF (W:World) (b np:Nat) (e:Option Addr) (d:Nat) (f:np<=64) (g:W.cell? (ao b)=some (.slice e (np+1) d)):
  vS 149 #[ak b] W (ab np):=by
 have hw:=A9 np f
 refine ge ?_
 go_wp2
 go_ret
 simp
def Kc (h:jd w a lo b c n np q v H) (f:Int) (hi:(Lit.int .i64 f).wf=true) (x:Hd) (k:H[np]? =some x) (hw:aV n H 0 f=none):
  vQ 134 #[ak b,ab f] w (ak x.sb):=by
 have t:=h.c1
 have l:=h.map.look f hi
 rw[hw] at l
 simp only[Option.getD_none,Option.isSome_none] at l
 obtain⟨g,d,e,_,_,m⟩:=h.rows
 have o:=h.c0
 rw[e] at o
 have p:=m np x k
 have i:=h.np1
 have s:=aa (fun W r=>nF W b np (some (ao g)) d i.2 r)
 have C:=aa o
 have B:(0:Int)<=(np:Int):=z_
 have A:(np:Int)<np+1:=z_
 have z:(np:Int)<((np+1:Nat):Int):=z_
 have y:np<np+1:=z_
 have u: ¬(np:Int)<0:=z_
 clear h m hw k
 refine ge ?_
 go_wp2
 go_region_held3 (fun j=>j.cell? (ao b)=some (.slice (some (ao g)) (np+1) d)/\j.cell? (af g np)=some (ak x.sb))
  (first
   |go_keep)
  (first
   |(go_at_call 149;refine cS (s.out _ y_) ?_))
 go_wp2
 go_ret
 exact⟨rfl,by first|exact cj|exact below_drewN cj _|exact below_drewN cj 1⟩
end
end Go.Proofs.YtnmhcgpnhlhcgaaGreatDoor
namespace Go.Proofs.YtnmhcgpnhlhcgaaGreatDoor
open Go.RowKit Go.Lib
def Un (H:List Hd):Prop:= ∀(i j:Nat) (x y:Hd) (a:Nat),H[i]? =some x->H[j]? =some y->(keyOf x.M a).isSome->(keyOf y.M a).isSome->i=j
def kS (n:Nat) (h:Hd) (a:Int):Bool:=((if 0<=a/\a<(n:Int) then keyOf h.M a.toNat else none:Option Ke.K)).isSome
theorem gj (n:Nat) (h:Hd) (H:List Hd) (k id:Int):aV n (h::H) k id=if kS n h id=true then some k else aV n H (k+1) id:=rfl
def gN {n:Nat} {h:Hd} {a:Int}:kS n h a=true↔0<=a/\a<(n:Int)/\(keyOf h.M a.toNat).isSome=true:=by
 unfold kS
 grind
def iB (n:Nat) (id:Int): ∀(H:List Hd) (k:Int),(∀(i:Nat) (x:Hd),H[i]? =some x->0<=id->keyOf x.M id.toNat=none)->aV n H k id=none
 |[],_,_=>rfl
 |h::H,k,a=>by
  rw[gj,if_neg (fun q=>by
   have q:=gN.1 q
   rw[a 0 h rfl q.1] at q
   grind)]
  exact iB n id H (k+1) (fun i x b=>a (i+1) x y_)
theorem lG (n:Nat) (b:Int): ∀(H:List Hd) (k c:Int),aV n H k b=some c-> ∃(i:Nat) (x:Hd),H[i]? =some x/\c=k+(i:Int)/\0<=b/\b<(n:Int)/\(keyOf x.M b.toNat).isSome
 |[],_,_,h=>by cases h
 |h::H,k,c,a=>by
  rw[gj] at a
  by_cases q:kS n h b=true
  ·rw[if_pos q] at a
   injection a with a
   exact⟨0,h,rfl,by simp[a],gN.1 q⟩
  ·rw[if_neg q] at a
   obtain⟨i,x,f,e,d⟩:=lG n b H (k+1) c a
   exact⟨i+1,x,y_,z_,d⟩
def jJ {n:Nat} {a:Int} {x:Hd}: ∀{H:List Hd} {k:Int} {i:Nat},H[i]? =some x->aV n H k a=none->kS n x a=false
 |[],_,_,h,_=>by simp at h
 |h::H,k,i,hi,b=>by
  rw[gj] at b
  by_cases q:kS n h a=true
  ·grind
  ·rw[if_neg q] at b
   cases i with
   |zero=>
    grind
   |succ i=>exact jJ (i:=i) y_ b
def oL (n:Nat) (H:List Hd) (g:Un H) (i:Nat) (x:Hd) (b:H[i]? =some x) (a:Nat) (hi:a<n) (d:(keyOf x.M a).isSome):aV n H 0 (a:Int)=some (i:Int):=by
 cases e:aV n H 0 (a:Int) with
 |some c=>
  obtain⟨j,y,f,k,_,_,h⟩:=lG n _ H 0 c e
  have:=g i j x y a b f d h
  grind
 |none=>
  have f:=jJ b e
  have k:kS n x (a:Int)=true:=gN.2 ⟨z_,z_,d⟩
  grind
def eT {n:Nat} {H:List Hd} {a:Nat} (hw:aV n H 0 (a:Int)=none) (hi:a<n) {i:Nat} {x:Hd} (b:H[i]? =some x):keyOf x.M a=none:=by
 have e:=jJ b hw
 cases c:keyOf x.M a with
 |none=>rfl
 |some k=>
  have d:kS n x (a:Int)=true:=gN.2 ⟨z_,z_,by simp[c]⟩
  grind
def ff (n:Nat) (id:Int): ∀(H b:List Hd) (k:Int),H.length=b.length->(∀(i:Nat) (x c:Hd),H[i]? =some x->b[i]? =some c->0<=id->(keyOf x.M id.toNat).isSome=(keyOf c.M id.toNat).isSome)->aV n H k id=aV n b k id
 |[],[],_,_,_=>rfl
 |[],_::_,_,h,_=>by simp at h
 |_::_,[],_,h,_=>by simp at h
 |h::H,j::b,k,o,g=>by
  have e:kS n h id=kS n j id:=by
   rw[Bool.eq_iff_iff,gN,gN]
   constructor
   ·rintro⟨a,f,d⟩;exact⟨a,f,by rw[<-g 0 h j rfl rfl a];exact d⟩
   ·rintro⟨a,f,d⟩;exact⟨a,f,by rw[g 0 h j rfl rfl a];exact d⟩
  rw[gj,gj,e,ff n id H b (k+1) y_ (fun i x c m l=>g (i+1) x c y_ y_)]
def fp {H:List Hd} {i:Nat} {y:Hd} (hi:i<H.length) {j:Nat} {z:Hd} (hz:(H.set i y)[j]? =some z):(j=i/\z=y)\/(j≠i/\H[j]? =some z):=by
 grind
def iX: ∀{H:List Hd} {i:Nat} {x y:Hd},H[i]? =some x->dR (H.set i y)+x.M.length=dR H+y.M.length
 |[],_,_,_,h=>by simp at h
 |h::H,0,x,y,a=>by
  simp at a
  subst a
  simp[dR]
  omega
 |h::H,i+1,x,y,a=>by
  have:=iX (H:=H) (i:=i) (x:=x) (y:=y) y_
  simp only[dR,List.set_cons_succ,List.map_cons,List.sum_cons] at this|-
  omega
def Bn {b:Nat}: ∀{H:List Hd},(∀(i:Nat) (x:Hd),H[i]? =some x->x.M.length<=b)->dR H<=H.length*b
 |[],_=>by simp[dR]
 |h::H,a=>by
  have d:=a 0 h rfl
  have:=Bn (H:=H) (fun i x c=>a (i+1) x y_)
  simp only[dR,List.map_cons,List.sum_cons,List.length_cons,Nat.add_mul,Nat.one_mul] at this|-
  omega
def jY {M:List En} {id:Nat}:(keyOf M id).isSome=true↔ ∃y∈M,y.1=id:=by
 cases h:keyOf M id with
 |none=>
  have:=cw.1 h
  grind
 |some k=>
  simp only[Option.isSome_some,true_iff]
  unfold keyOf at h
  cases a:M.find? (fun y=>y.1==id) with
  |none=>grind
  |some y=>grind
def ma {M:List En} {b j:Nat} {k:Ke.K}:(keyOf (put (b,k) M) j).isSome=true↔j=b\/(keyOf M j).isSome=true:=by
 rw[jY,jY]
 constructor
 ·rintro⟨y,a,rfl⟩
  rcases fh.1 a with rfl|a
  ·omega
  grind
 ·rintro(rfl|⟨y,a,rfl⟩)
  ·exact⟨_,fh.2 (.inl rfl),rfl⟩
  ·exact⟨y,fh.2 (.inr a),rfl⟩
def oZ {M:List En} {id j:Nat}:(keyOf (cut id M) j).isSome=true↔j≠id/\(keyOf M j).isSome=true:=by
 rw[jY,jY]
 constructor
 ·rintro⟨y,a,rfl⟩
  exact⟨(ku.1 a).2,y,(ku.1 a).1,rfl⟩
 ·rintro⟨h,y,a,rfl⟩
  exact⟨y,ku.2 ⟨a,h⟩,rfl⟩
def CW {n:Nat} {H:List Hd} (u:Un H) {i:Nat} {x y:Hd} (p:H[i]? =some x) {h:Nat} (hi:h<n) {k:Ke.K} (o:y.M=put (h,k) x.M) (hw:aV n H 0 (h:Int)=none):
  Un (H.set i y)/\aV n (H.set i y) 0=dJ (aV n H 0) (h:Int) (some (i:Int)):=by
 have c:i<H.length:=(i6.1 p).1
 have U:Un (H.set i y):=by
  intro a b s t j v g f d
  rcases fp c v with ⟨rfl,rfl⟩|⟨q,m⟩
  ·rcases fp c g with ⟨rfl,rfl⟩|⟨r,l⟩
   ·rfl
   ·rw[o,ma] at f
    rcases f with rfl|f
    ·rw[eT hw hi l] at d;cases d
    ·exact u _ _ x t j p l f d
  ·rcases fp c g with ⟨rfl,rfl⟩|⟨r,l⟩
   ·rw[o,ma] at d
    rcases d with rfl|d
    ·rw[eT hw hi m] at f;cases f
    ·exact u _ _ s x j m p f d
   ·exact u a b s t j m l f d
 refine⟨U,funext fun j=> ?_⟩
 unfold dJ
 by_cases e:j=(h:Int)
 ·subst e
  rw[if_pos rfl]
  refine oL n _ U i y (List.getElem?_set_self c) h hi ?_
  rw[o,ma]
  omega
 ·rw[if_neg e]
  refine ff n j _ _ 0 q_ (fun a s t v g w=> ?_)
  rcases fp c v with ⟨rfl,rfl⟩|⟨q,m⟩
  ·rw[p] at g
   injection g with g
   subst g
   rw[Bool.eq_iff_iff,o,ma]
   grind
  grind
def rM {n:Nat} {H:List Hd} (p:Un H) {i:Nat} {x y:Hd} (l:H[i]? =some x) {id:Nat} (o:y.M=cut id x.M) (hw:(keyOf x.M id).isSome=true):
  Un (H.set i y)/\aV n (H.set i y) 0=dJ (aV n H 0) (id:Int) none:=by
 have d:i<H.length:=(i6.1 l).1
 have g: ∀(a:Nat) (s:Hd) (j:Nat),(H.set i y)[a]? =some s->(keyOf s.M j).isSome=true-> ∃t,H[a]? =some t/\(keyOf t.M j).isSome=true:=by
  intro a s j c m
  rcases fp d c with ⟨rfl,rfl⟩|⟨q,h⟩
  ·rw[o,oZ] at m
   grind
  grind
 have U:Un (H.set i y):=by
  intro a b s t j c f m B
  obtain⟨u,A,z⟩:=g a s j c m
  obtain⟨r,w,v⟩:=g b t j f B
  exact p a b u r j A w z v
 refine⟨U,funext fun j=> ?_⟩
 unfold dJ
 by_cases e:j=(id:Int)
 ·subst e
  rw[if_pos rfl]
  refine iB n _ _ 0 (fun a s c _=> ?_)
  simp only[Int.toNat_natCast]
  cases C:keyOf s.M id with
  |none=>rfl
  |some k=>
   exfalso
   rcases fp d c with ⟨rfl,rfl⟩|⟨q,h⟩
   ·have:=(oZ (M:=x.M) (id:=id) (j:=id)).1 y_
    omega
   ·exact q (p a i s x id h l y_ hw)
 ·rw[if_neg e]
  refine ff n j _ _ 0 q_ (fun a s t c f D=> ?_)
  rcases fp d c with ⟨rfl,rfl⟩|⟨q,h⟩
  ·rw[l] at f
   injection f with f
   subst f
   rw[Bool.eq_iff_iff,o,oZ]
   grind
  grind
def yY {n:Nat} {H:List Hd} (q:Un H) {i:Nat} {x y:Hd} (p:H[i]? =some x) (w: ∀d,(keyOf y.M d).isSome=(keyOf x.M d).isSome):
  Un (H.set i y)/\aV n (H.set i y) 0=aV n H 0:=by
 have r:i<H.length:=(i6.1 p).1
 have c: ∀(a:Nat) (s:Hd) (j:Nat),(H.set i y)[a]? =some s-> ∃t,H[a]? =some t/\(keyOf t.M j).isSome=(keyOf s.M j).isSome:=by
  grind
 refine⟨fun a b s t j f e v u=> ?_,funext fun j=> ?_⟩
 ·obtain⟨h,o,m⟩:=c a s j f
  obtain⟨g,l,k⟩:=c b t j e
  exact q a b h g j o l (m.trans v) (k.trans u)
 ·refine ff n j _ _ 0 q_ (fun a s t f e z=> ?_)
  grind
def Hd.to (x:Hd) (t:Nat) (M:List En):Hd:={x with turn:=t,M:=M}
def Hd.L8 (x:Hd) (t:Nat) (M:List En) (k:Nat):(x.to t M).own k↔x.own k:=Iff.rfl
def Ju {H:List Hd} {i:Nat} {x:Hd} (a:H[i]? =some x) (t:Nat) (M:List En):lE (H.set i (x.to t M))=lE H:=by
 unfold lE
 rw[List.map_set]
 have:((H.map (fun h:Hd=>Value.pointer (some (ao h.sb))))).set i (Value.pointer (some (ao x.sb)))=H.map (fun h:Hd=>Value.pointer (some (ao h.sb))):=by
  apply List.ext_getElem?
  grind
 exact this
def Ai {S:Nat->Prop} {w f:World} {b:Nat} {e:TypeId} {a:Nat} {v:Value} {n:Nat} {xs:List Value} (h:w.ownsRow b e a v n xs) (l:Fr S w f) (j: ∀k,v.ownBlock=some k-> ¬S k):f.ownsRow b e a v n xs:=by
 refine⟨h.1,?_⟩
 rcases h.2 with r|⟨g,d,c,rfl,m,i,r⟩
 ·grind
 ·refine .inr ⟨g,d,c,rfl,m,?_,r⟩
  rw[l.block g (zW0.1 i).1 (j g rfl)]
  exact i
structure db (w:World) (base lo pb mb n np q:Nat) (v:Value) (T:Nat) (H:List Hd):Prop where
 p:jd w base lo pb mb n np q v H
 un:Un H
 tn: ∀(i:Nat) (h:Hd),H[i]? =some h->h.turn<=T
section
variable {w w' wa wb:World} {base lo c a n np q T:Nat} {v:Value} {H:List Hd}
def jd.LR (h:jd w base lo c a n np q v H):c<w.heap.size:=(zW0.1 h.blk).1
def jd.below (h:jd w base lo c a n np q v H) (b:aC w w'):jd w' base lo c a n np q v H:=
 ⟨h.n1,h.np1,h.q1,(b.block _ h.LR).trans h.blk,zU h.row (Fr.aF (S:=fun _=>False) b) (fun _ _ _ q=>q),h.len,h.sets.below b,h.map.block (b.block _ h.map.lt),h.sep,h.ne⟩
def db.below (h:db w base lo c a n np q v T H) (b:aC w w'):db w' base lo c a n np q v T H:=⟨h.p.below b,h.un,h.tn⟩
def mw (c a:Nat) (v:Value) (H:List Hd) (k:Nat):Prop:=k=c\/k=a\/v.ownBlock=some k\/ ∃(i:Nat) (h:Hd),H[i]? =some h/\h.own k
def jd.blocks (h:jd w base lo c a n np q v H): ∀k,mw c a v H k->k<w.heap.size:=by
 rintro k (rfl|rfl|e|⟨i,x,b,d⟩)
 ·exact h.LR
 ·exact h.map.lt
 ·exact(Dc.bN h.row k e).2
 ·exact(h.sets.it i x b).blocks k d
def jd.frame {S:Nat->Prop} (h:jd w base lo c a n np q v H) (d:Fr S w w') (b: ∀k,mw c a v H k-> ¬S k):jd w' base lo c a n np q v H:=
 ⟨h.n1,h.np1,h.q1,(d.block _ h.LR (b _ (.inl rfl))).trans h.blk,Ai h.row d (fun k e=>b k (.inr (.inr (.inl e)))),h.len,h.sets.frame d (fun i x f k g=>b k (.inr (.inr (.inr ⟨i,x,f,g⟩)))),h.map.block (d.block _ h.map.lt (b _ (.inr (.inl rfl)))),h.sep,h.ne⟩
def jd.jV (h:jd w base lo c a n np q v H) {i:Nat} {x:Hd} (d:H[i]? =some x) {t:Nat} {M:List En} (m:Fr x.own w wa) (o:(x.to t M).is wa n (mY np n q i)) (l:Fr (fun k=>k=a) wa wb)
  (s:bU wb a (aV n (H.set i (x.to t M)) 0) (dR (H.set i (x.to t M)))):jd wb base lo c a n np q v (H.set i (x.to t M))/\Fr (fun k=>k=a\/x.own k) w wb:=by
 have g:Fr (fun k=>k=a\/x.own k) w wb:=(m.wide (fun _ _ q=> .inr q)).trans (l.wide (fun _ _ q=> .inl q))
 have b:i<H.length:=(i6.1 d).1
 have p:=fun k=>Hd.L8 x t M k
 have u:=h.sep i x d
 refine⟨⟨h.n1,h.np1,h.q1,?_,?_,by rw[List.length_set];exact h.len,?_,s,?_,h.ne⟩,g⟩
 ·rw[g.block _ h.LR (by rintro(e|e);exact h.ne.1 e;grind)]
  exact h.blk
 ·rw[List.length_set,Ju d]
  refine Ai h.row g ?_
  rintro k e (rfl|y)
  ·exact h.ne.2.2 e
  grind
 ·have:=h.sets.set d m o p
  refine this.frame l ?_
  intro j z hz k f e
  subst e
  rcases fp b hz with ⟨rfl,rfl⟩|⟨_,r⟩
  ·grind
  ·exact(h.sep j z r _ f).2.2 rfl
 ·intro j z hz k f
  rcases fp b hz with ⟨rfl,rfl⟩|⟨_,r⟩
  ·grind
  ·exact h.sep j z r _ f
def db.jV (h:db w base lo c a n np q v T H) {i:Nat} {x:Hd} (e:H[i]? =some x) {t:Nat} (u:t<=x.turn+1) {M:List En} (s:Fr x.own w wa) (g:(x.to t M).is wa n (mY np n q i)) (o:Fr (fun k=>k=a) wa wb) (l:Un (H.set i (x.to t M)))
  (m:bU wb a (aV n (H.set i (x.to t M)) 0) (dR (H.set i (x.to t M)))):db wb base lo c a n np q v (T+1) (H.set i (x.to t M))/\Fr (fun k=>k=a\/x.own k) w wb:=by
 have f:i<H.length:=(i6.1 e).1
 obtain⟨d,b⟩:=h.p.jV e s g o m
 refine⟨⟨d,l,fun j z hz=> ?_⟩,b⟩
 rcases fp f hz with ⟨rfl,rfl⟩|⟨_,r⟩
 ·have:=h.tn _ x e
  show t<=T+1
  omega
 ·have:=h.tn j z r
  omega
def jd.at (h:jd w base lo c a n np q v H) {i:Nat} (hi:i<=np): ∃x,H[i]? =some x:=by
 have:=h.len
 exact⟨H[i]' z_,zX0 _⟩
def jd.lx (h:jd w base lo c a n np q v H):dR H<=66560:=by
 have:=Bn (H:=H) (b:=1024) (fun i x d=>by
  have f:=(h.sets.it i x d).fit
  have e:=h.n1
  have:mY np n q i<=n:=by unfold mY;grind
  omega)
 rw[h.len] at this
 have:=h.np1
 omega
def dM.roomy {g i o k gh d b:Nat} {M:List En} (h:dM w g i o k gh n d b M) {e:Nat} (hi:e<n) (j:keyOf M e=none):M.length<n:=by
 have f:=h.nd
 have p: ∀y∈M,y.1<n:=by obtain⟨R,L,l,m⟩:=jy h;exact m.nN l
 have r:=cw.1 j
 have:=Bq.pF n (e::M.map (·.1)) (yV0.2 ⟨fun q=>by grind,f⟩) (by
  grind)
 grind
end
attribute [local go_sem ↓] Go.wp_at_zero Go.wp_at_succ
def aK {B:Nat} {e w w':World} (h:Below B e w) (a:w'.heap=w.heap) (b:w'.os=w.os) (c:w'.tape=w.tape) (d:w'.output=w.output):Below B e w':=
 ⟨b.trans h.os,c.trans h.tape,d.trans h.output,by rw[a];exact h.size,fun k f=>by rw[a];exact h.block k f⟩
def lH {i:Nat} (h:i<=2048):(Lit.int .i64 (i:Int)).wf=true:=by
 have b:IntKind.i64.min= -9223372036854775808:=x_
 have a:IntKind.i64.max=9223372036854775807:=x_
 simp[Lit.wf,b,a]
 omega
section
variable {w w' wa wb:World} {b lo pb mb n c q T g f:Nat} {v:Value} {H:List Hd}
def jd.view (h:jd w b lo pb mb n c q (.slice (some (ao g)) (c+1) f) H):w.cell? (ao pb)=some (.slice (some (ao g)) (c+1) f)/\w.cell? (af pb 1)=some (.map (some mb))/\w.cell? (af pb 2)=some (ab n)/\(∀(i:Nat) (x:Hd),H[i]? =some x->w.cell? (af g i)=some (ak x.sb))/\g<w.heap.size:=by
 refine⟨h.c0,h.c1,h.c2,?_⟩
 obtain⟨k,a,e,_,j,d⟩:=h.rows
 grind
def me (h:db w b lo pb mb n c q v T H) (k:Ke.K): ∀W,Below (w.heap.size+1) (w.alloc (.cells (bn k) 120)) W->db W b lo pb mb n c q v T H/\(W.cell? (ao w.heap.size)=some (.bool k.e)/\W.cell? (af w.heap.size 1)=some (aj k.d)/\W.cell? (af w.heap.size 2)=some (aA k.l))/\w.heap.size+1<=W.heap.size/\aC w W:=fun W a=>by
 have i:aC w W:=bq.trans (a.mono z_)
 refine⟨h.below i,⟨?_,?_,?_⟩,by have:=a.size;simp_all,i⟩
 ·rw[a.cell (p:=(ao w.heap.size)) q_,bE];rfl
 ·rw[a.cell (p:=(af w.heap.size 1)) q_,bE];rfl
 ·rw[a.cell (p:=(af w.heap.size 2)) q_,bE];rfl
def AH (h:db w b lo pb mb n c q (.slice (some (ao g)) (c+1) f) T H) (Y:T<=1000000000) {i:Nat} {x:Hd} (t:H[i]? =some x) (s:Nat) (hi:s<n) (k:Ke.K) (I:Ke.aN k=true) (N:k.ok) (z:keyOf x.M s=none) (L:x.M.length<mY c n q i):
  ∀W,Below (w.heap.size+1) (w.alloc (.cells (bn k) 120)) W->
  aB 148 #[ak x.sb,ab s,.agg (bn k)] W fun e w'=>e= .returned (ab 0)/\
   (w'.cell? (ao pb)=some (.slice (some (ao g)) (c+1) f)/\w'.cell? (af g i)=some (ak x.sb)/\w'.cell? (ao w.heap.size)=some (.bool k.e)/\w'.cell? (af w.heap.size 1)=some (aj k.d)/\w'.cell? (af w.heap.size 2)=some (aA k.l))/\
   w'.cell? (af pb 1)=some (.map (some mb))/\bU w' mb (aV n H 0) (dR H)/\(x.to (x.turn+1) (put (s,k) x.M)).is w' n (mY c n q i)/\Fr x.own w w':=fun W R=>by
 obtain⟨o,⟨F,E,D⟩,hz,Q⟩:=me h k W R
 have G:=o.p.sets.it i x t
 obtain⟨X,V,_,U,A⟩:=o.p.view
 have m:=o.p.sep i x t
 have J:=o.p.ne
 have P:=(h.p.sets.it i x t).blocks
 refine(AN G (by have:=h.tn i x t;omega) s k hi I N z L).mono ?_
 rintro e w1 ⟨rfl,S,O⟩
 have j:Fr x.own W w1:=O
 have y: ¬x.own w.heap.size:=fun q=>by grind
 have C: ¬x.own g:=fun q=>(m g q).1 rfl
 have r: ¬x.own pb:=fun q=>(m pb q).2.1 rfl
 have B: ¬x.own mb:=fun q=>(m mb q).2.2 rfl
 have u:=o.p.LR
 refine⟨rfl,⟨(j.cell (a:=(ao pb)) u r).trans X,(j.cell (a:=(af g i)) A C).trans (U i x t),(j.cell (a:=(ao w.heap.size)) y_ y).trans F,(j.cell (a:=(af w.heap.size 1)) y_ y).trans E,(j.cell (a:=(af w.heap.size 2)) y_ y).trans D⟩,
  (j.cell (a:=(af pb 1)) u r).trans V,o.p.map.block (j.block _ o.p.map.lt B),S,(Fr.aF Q).trans j⟩
def AB (h:jd w b lo pb mb n c q v H) (p:Nat) (a:p<c):
  vS 147 #[ak pb,ab p] w (.bool true):=by
 have:=tJ h (p:Int)
 rw[xZ0 ⟨z_,z_⟩] at this
 exact this
def GN (w w':World) (b lo pb mb n c q:Nat) (v:Value) (T:Nat) (H:List Hd) (i:Nat) (x:Hd) (M:List En):Prop:=
 db w' b lo pb mb n c q v (T+1) (H.set i (x.to (x.turn+1) M))/\Fr (fun k=>k=mb\/x.own k) w w'
def wD (h:db w b lo pb mb n c q v T H) {i:Nat} {x:Hd} (l:H[i]? =some x) {a:Nat} (hi:a<n) {k:Ke.K} (hw:aV n H 0 (a:Int)=none)
  (r:(x.to (x.turn+1) (put (a,k) x.M)).is wa n (mY c n q i)) (u:Fr x.own w wa) (d:wa.grownBy wb (some mb)) (m:bU wb mb (dJ (aV n H 0) (a:Int) (some (i:Int))) (if (aV n H 0 (a:Int)).isSome then dR H else dR H+1)):
  GN w wb b lo pb mb n c q v T H i x (put (a,k) x.M):=by
 obtain⟨p,o⟩:=CW (y:=x.to (x.turn+1) (put (a,k) x.M)) h.un l hi rfl hw
 refine h.jV l aT u r ⟨d.os,d.tape,d.output,d.size,fun j t s=>d.block j t (fun e=>s (Option.some.inj e))⟩ p ?_
 rw[o]
 have z:=iX (y:=x.to (x.turn+1) (put (a,k) x.M)) l
 have e:dR (H.set i (x.to (x.turn+1) (put (a,k) x.M)))=dR H+1:=by
  have:(x.to (x.turn+1) (put (a,k) x.M)).M.length=x.M.length+1:=mT
  omega
 rw[e]
 rw[hw] at m
 exact m
def CD (h:db w b lo pb mb n c q (.slice (some (ao g)) (c+1) f) T H) (hT:T<=1000000000) (p:Nat) (hp:p<c) {x:Hd} (z:H[p]? =some x) (id:Nat) (hi:id<n) (k:Ke.K) (X:Ke.aN k=true) (hk:k.ok) (hw:aV n H 0 (id:Int)=none) (hl:x.M.length<mY c n q p):
  aB 96 #[ak pb,ab p,ab id,.agg (bn k)] w fun e w'=>e= .returned (ab 0)/\GN w w' b lo pb mb n c q (.slice (some (ao g)) (c+1) f) T H p x (put (id,k) x.M):=by
 have a3:=h.p.n1
 have Y:=h.p.np1
 have HX:=aa (me h k)
 have J:=aa (AH h hT z id hi k X hk (eT hw hi z) hl)
 have t:=aa (fun wa wb a m j d=>wD (wa:=wa) (wb:=wb) (k:=k) h z hi hw a m j d)
 have HR:=aa (fun W=>by have:=Ke.cf W k;rw[X] at this;exact this)
 have V:=h.p.lx
 have HW:=aa hw
 have u:=lH (i:=id) z_
 have O:=lH (i:=p) z_
 have s:Below (w.heap.size+1) (w.alloc (.cells (bn k) 120)) (w.alloc (.cells (bn k) 120)):=cj
 have HA:=aa s
 obtain⟨r,⟨k0,k1,k2⟩,P,_⟩:=me h k _ s
 have L:=aa (AB r.p p hp)
 obtain⟨c0,c1,c2,_,_⟩:=r.p.view
 have i0: ¬(id:Int)<0:=z_
 have i1: ¬(n:Int)<=id:=z_
 have i2:(id:Int)<n:=z_
 have b1:(p:Int)<c+1:=z_
 have b2:(p:Int)<((c+1:Nat):Int):=z_
 have b3:p<c+1:=z_
 have b4: ¬(p:Int)<0:=z_
 have R:=aa z
 clear h r s hw z
 refine ge ?_
 go_wp2_with (first
  |(go_at_call 147;refine cS L.out ?_)
  |(go_at_call 129;refine(HR.out _).mono ?_;rintro e w2 ⟨rfl,G⟩;have N:=aa (HA.out.trans (G.mono P));obtain⟨o,⟨a1,a0,Z⟩,a2,_⟩:=HX.out _ N.out;have D:=o.p.map.look id u;rw[HW.out] at D;simp only[Option.getD_none,Option.isSome_none] at D;obtain⟨a8,a7,a6,I,_⟩:=o.p.view;have a5:=I p x R.out;clear o I G))
 go_region_held3 (fun w'=>w'.cell? (ao pb)=some (.slice (some (ao g)) (c+1) f)/\w'.cell? (af g p)=some (ak x.sb)/\w'.cell? (ao w.heap.size)=some (.bool k.e)/\w'.cell? (af w.heap.size 1)=some (aj k.d)/\w'.cell? (af w.heap.size 2)=some (aA k.l))
  (first
   |exact S3.out
   |go_keep)
  (first
   |(go_at_call 148;refine(J.out _ (by exact aK N.out rfl rfl rfl rfl)).mono ?_;rintro e w3 ⟨rfl,A,a4,C,y,F⟩;have S3:=aa A;have S:=aa C;have Q:=aa y;have U:=aa F;clear A C y F))
 go_wp2_with (at_mapUpdate;refine jX rfl _ _ _ rfl (by exact S.out) (by unfold maxLen;omega) (id:Int) (p:Int) u O rfl rfl rfl ?_;intro w4 B E;have HD:=aa (t.out _ _ Q.out U.out (by exact E) B);clear B E)
 go_ret
 exact⟨rfl,HD.out⟩
end
section
variable {w a wa wb:World} {c lo d e n np q T g b:Nat} {v:Value} {H:List Hd}
def De (h:db w c lo d e n np q (.slice (some (ao g)) (np+1) b) T H) (hT:T<=1000000000) (p:Nat) (hp:p<np) {x y:Hd} (hx:H[p]? =some x) (t:H[np]? =some y) (id:Nat) (hi:id<n) (k:Ke.K) (hr:Ke.aN k=true) (hk:k.ok) (hw:aV n H 0 (id:Int)=none) (hl:x.M.length=mY np n q p):
  aB 96 #[ak d,ab p,ab id,.agg (bn k)] w fun f a=>f= .returned (ab 0)/\GN w a c lo d e n np q (.slice (some (ao g)) (np+1) b) T H np y (put (id,k) y.M):=by
 have b8:=h.p.n1
 have I:=h.p.np1
 have HX:=aa (me h k)
 have s:y.M.length<mY np n q np:=by
  have:=dM.roomy (h.p.sets.it np y t) hi (eT hw hi t)
  unfold mY
  grind
 have X:=aa (AH h hT t id hi k hr hk (eT hw hi t) s)
 have C:Hid (∀W,Below (w.heap.size+1) (w.alloc (.cells (bn k) 120)) W->aB 148 #[ak x.sb,ab id,.agg (bn k)] W fun f a=>f= .returned (ab 4)/\Below (w.heap.size+1) (w.alloc (.cells (bn k) 120)) a):=fun W hW=>by
  obtain⟨hQ,_,hz,_⟩:=me h k W hW
  refine(sV (hQ.p.sets.it p x hx) id hi k hr (eT hw hi hx) hl).mono ?_
  rintro f w1 ⟨rfl,hb⟩
  exact⟨rfl,hW.trans (hb.mono hz)⟩
 have D:=aa (fun wa wb r o m j=>wD (wa:=wa) (wb:=wb) (k:=k) h t hi hw r o m j)
 have HR:=aa (fun W=>by have:=Ke.cf W k;rw[hr] at this;exact this)
 have a5:=aa (fun W h0=>nF W d np (some (ao g)) b I.2 h0)
 have a8:=h.p.lx
 have HW:=aa hw
 have E:=lH (i:=id) z_
 have a1:=lH (i:=np) z_
 have A:Below (w.heap.size+1) (w.alloc (.cells (bn k) 120)) (w.alloc (.cells (bn k) 120)):=cj
 have HA:=aa A
 obtain⟨z,⟨k0,k1,k2⟩,a2,_⟩:=me h k _ A
 have Y:=aa (AB z.p p hp)
 obtain⟨c0,c1,c2,_,_⟩:=z.p.view
 have i0: ¬(id:Int)<0:=z_
 have i1: ¬(n:Int)<=id:=z_
 have i2:(id:Int)<n:=z_
 have b1:(p:Int)<np+1:=z_
 have b2:(p:Int)<((np+1:Nat):Int):=z_
 have b3:p<np+1:=z_
 have b4: ¬(p:Int)<0:=z_
 have d1:(np:Int)<np+1:=z_
 have d2:(np:Int)<((np+1:Nat):Int):=z_
 have d3:np<np+1:=z_
 have d4: ¬(np:Int)<0:=z_
 have V:=aa hx
 have a3:=aa t
 clear h z A hw hx t hl s
 refine ge ?_
 go_wp2_with (first
  |(go_at_call 147;refine cS Y.out ?_)
  |(go_at_call 129;refine(HR.out _).mono ?_;rintro f w2 ⟨rfl,R⟩;have a0:=aa (HA.out.trans (R.mono a2));obtain⟨u,⟨b5,b0,a9⟩,b7,_⟩:=HX.out _ a0.out;have N:=u.p.map.look id E;rw[HW.out] at N;simp only[Option.getD_none,Option.isSome_none] at N;obtain⟨c9,c8,c7,U,_⟩:=u.p.view;have c6:=U p x V.out;clear u U R))
 go_region_held3 (fun a=>a.cell? (ao d)=some (.slice (some (ao g)) (np+1) b)/\a.cell? (af g p)=some (ak x.sb)/\a.cell? (ao w.heap.size)=some (.bool k.e)/\a.cell? (af w.heap.size 1)=some (aj k.d)/\a.cell? (af w.heap.size 2)=some (aA k.l))
  (first
   |exact⟨c30,c34,k30,k31,k32⟩
   |go_keep)
  (first
   |(go_at_call 148;refine(C.out _ (by exact aK a0.out rfl rfl rfl rfl)).mono ?_;rintro f w3 ⟨rfl,Q⟩;have Z:=aa Q;obtain⟨S,⟨k30,k31,k32⟩,b6,_⟩:=HX.out _ Z.out;obtain⟨c30,c5,c4,B,_⟩:=S.p.view;have c34:=B p x V.out;have c3:=B np y a3.out;have d0:=aa c30;clear S B Q))
 go_wp2_with (go_at_call 149;refine cS (a5.out _ z_) ?_)
 go_region_held3 (fun a=>a.cell? (ao d)=some (.slice (some (ao g)) (np+1) b)/\a.cell? (af g np)=some (ak y.sb)/\a.cell? (ao w.heap.size)=some (.bool k.e)/\a.cell? (af w.heap.size 1)=some (aj k.d)/\a.cell? (af w.heap.size 2)=some (aA k.l))
  (first
   |exact S5.out
   |simp_all
   |go_keep)
  (first
   |(go_at_call 148;refine(X.out _ (by exact aK Z.out rfl rfl rfl rfl)).mono ?_;rintro f w5 ⟨rfl,G,b9,L,F,P⟩;have S5:=aa G;have a6:=aa L;have a4:=aa F;have a7:=aa P;clear G L F P))
 go_wp2_with (at_mapUpdate;refine jX rfl _ _ _ rfl (by exact a6.out) (by unfold maxLen;omega) (id:Int) (np:Int) E a1 rfl rfl rfl ?_;intro w6 J O;have HD:=aa (D.out _ _ a4.out a7.out (by exact O) J);clear J O)
 go_ret
 exact⟨rfl,HD.out⟩
end
end Go.Proofs.YtnmhcgpnhlhcgaaGreatDoor
namespace Go.Proofs.YtnmhcgpnhlhcgaaGreatDoor
open Go.RowKit Go.Shelf
attribute [local go_sem] Oper.semAt_some
abbrev Pl (np:Nat):={x:Nat//x<=np}
def qY (np p d i:Nat):Nat:=(p+1+d%np+i)%np
def gD (np p d i:Nat):List Nat:=p::np::((List.range i).map (qY np p d)).filter (· !=p)
def gy (np p d:Nat):List Nat:=gD np p d np
def r9 {np p d i:Nat} (h:qY np p d i≠p):gD np p d (i+1)=gD np p d i++[qY np p d i]:=by
 unfold gD
 rw[List.range_succ,List.map_append,List.filter_append]
 simp[h]
def vy {np p d i:Nat} (h:qY np p d i=p):gD np p d (i+1)=gD np p d i:=by
 unfold gD
 rw[List.range_succ,List.map_append,List.filter_append]
 simp[h]
def C3 (np p d i:Nat):(gD np p d i).length<=i+2:=by
 unfold gD
 grind
def j7 {np p d i:Nat}: ∀{j:Nat},i<=j->gD np p d i<+:gD np p d j
 |0,h=>by
  have:i=0:=z_
  rw[this]
  exact List.prefix_refl _
 |j+1,h=>by
  rcases Nat.eq_or_lt_of_le h with e|e
  ·rw[e];exact List.prefix_refl _
  ·have:=j7 (np:=np) (p:=p) (d:=d) (i:=i) (j:=j) z_
   by_cases q:qY np p d j=p
   ·rw[vy q];exact this
   ·rw[r9 q];exact this.trans (List.prefix_append _ _)
structure KQ (W:World) (B1 B2 B3 pb np p d:Nat) (a:Option Addr) (cap:Nat):Prop where
 l1:B1<W.heap.size
 l2:B2<W.heap.size
 l3:B3<W.heap.size
 l4:pb<W.heap.size
 c1:W.cell? (ao B1)=some (ab p)
 c2:W.cell? (ao B2)=some (ak pb)
 c3:W.cell? (ao B3)=some (aj d)
 c0:W.cell? (ao pb)=some (.slice a (np+1) cap)
def KQ.fr {W W':World} {g B2 f c np p d:Nat} {a:Option Addr} {cap:Nat} {S:Nat->Prop} (h:KQ W g B2 f c np p d a cap) (e: ¬S g/\ ¬S B2/\ ¬S f/\ ¬S c) (b:Fr S W W'):KQ W' g B2 f c np p d a cap:=
 ⟨i8 h.l1 b.size,i8 h.l2 b.size,i8 h.l3 b.size,i8 h.l4 b.size,(b.cell (a:=(ao g)) h.l1 e.1).trans h.c1,(b.cell (a:=(ao B2)) h.l2 e.2.1).trans h.c2,(b.cell (a:=(ao f)) h.l3 e.2.2.1).trans h.c3,(b.cell (a:=(ao c)) h.l4 e.2.2.2).trans h.c0⟩
def kh (nn:Nat) (hn:1<=nn) (l B1 B2 B3 L np p d:Nat) (a:Option Addr) (r:Nat) (hp:p<np) (a0:np<=64) (hd:d<18446744073709551616) (S:Nat->Prop) (hS: ¬S B1/\ ¬S B2/\ ¬S B3/\ ¬S L) (J Jx:List (Pl np)->World->Prop)
  (hY: ∀pre x W,J pre W->pre.length<np+2->YieldAt Fence.wide (nn-1) Tryz.prog l #[ab x.1] W fun e I=>
   (e= .returned (.bool true)/\J (pre++[x]) I/\Fr S W I)\/(e= .returned (.bool false)/\Jx (pre++[x]) I))
  (hD: ∀pre W q,J pre W->J pre (World.drewN W q))
  (W:World) (hR:KQ W B1 B2 B3 L np p d a r) (h0:J [] W):
  CallsIn Fence.wide nn Tryz.prog 185 #[.func (.yield l) #[] #[],ak B1,ak B2,ak B3] W fun e I=>(∃v,e= .returned v)/\
   ((∃k:List (Pl np),k.map (·.1)=gy np p d/\J k I)\/(∃pre:List (Pl np),pre.map (·.1)<+:gy np p d/\Jx pre I)):=by
 have c1:=hR.c1
 have c2:=hR.c2
 have HR:=aa hR
 have HY:=aa hY
 have HD:=aa hD
 have HS:=aa hS
 have X:=aa (fun W h0=>(callsIn_wide (n:=nn-1)).2 (nF W L np a r a0 h0))
 obtain⟨fn,u,j,B,o,c⟩:=hY [] ⟨p,z_⟩ W h0 q_
 dsimp only at o
 have s:=aa c
 clear hR hY hD hS h0 c
 refine callsIn_of_wp Tryz.func185 rfl trivial ?_ rfl
 simp only[Tryz.ntmps185,j_,Nat.reduceAdd,Nat.reduceSub]
 gi_wp2
 refine s.out.mono ?_
 rintro e W1 (⟨rfl,V,Q⟩|⟨rfl,A⟩)
 ·have F:=aa (HR.out.fr HS.out Q)
  have a5:=aa V
  have d2:=F.out.c2
  have D0:=aa F.out.c0
  clear V Q c1 c2 o s
  gi_wp2_with (refine⟨trivial,?_⟩;gi_at_call 149;refine(X.out _ D0.out).mono ?_;rintro e w2 ⟨rfl,g⟩;replace g:=g.symm;subst g)
  obtain⟨fn,u,j,B,o,c⟩:=HY.out [⟨p,z_⟩] ⟨np,z_⟩ W1 a5.out q_
  dsimp only at o
  rw[o,Oper.uponIn_round]
  refine⟨fun _=>hn,c.mono ?_⟩
  rintro e W2 (⟨rfl,U,P⟩|⟨rfl,z⟩)
  ·have b:=aa (F.out.fr HS.out P)
   have Z:=aa U
   have e1:=b.out.c1
   have e2:=b.out.c2
   have e3:=b.out.c3
   have E0:=aa b.out.c0
   have z0: ¬(np:Int)=0:=z_
   clear U P d2 D0 o c
   gi_wp2_with (refine⟨trivial,?_⟩;gi_at_call 149;refine(X.out _ E0.out).mono ?_;rintro e w2 ⟨rfl,g⟩;replace g:=g.symm;subst g)
   gi_quiet (fail)
   gi_wp2
   have ew:wrap64 ((p:Int)+1+wrap64 ((d:Int)%(np:Int)))=((p+1+d%np:Nat):Int):=by
    have h1:(d:Int)%(np:Int)=((d%np:Nat):Int):=z_
    have h2:d%np<np:=Nat.mod_lt _ z_
    rw[h1]
    unfold wrap64
    omega
   simp only[ew]
   have hf:p+1+d%np<=128:=by
    have h2:d%np<np:=Nat.mod_lt _ z_
    omega
   have a3:Hid (∀i,(p+1+d%np+i)%np=qY np p d i):=fun i=>rfl
   generalize p+1+d%np=f at*
   have a6:=aa (HD.out _ _ nq Z.out)
   have a1:=aa (show KQ (W2.drewN nq) B1 B2 B3 L np p d a r from⟨b.out.l1,b.out.l2,b.out.l3,b.out.l4,b.out.c1,b.out.c2,b.out.c3,b.out.c0⟩)
   clear Z b e1 e2 e3 E0 ew
   gi_loopw [31] (fun v wr=> ∃i:Nat,i<=np/\v=ab i/\KQ wr B1 B2 B3 L np p d a r/\ ∃k:List (Pl np),k.map (·.1)=gD np p d i/\J k wr) (fun v _=>np-(intOf v).toNat)
   case atStart=>exact⟨0,Nat.zero_le _,rfl,a1.out,_,rfl,a6.out⟩
   case round=>
    obtain⟨i,hi,rfl,D,k,M,R⟩:=hrel
    have g1:=D.c1
    have Y:=aa D
    have G:=aa R
    have E:=aa M
    clear D R M
    by_cases a8:i<np
    ·have a7:(i:Int)<np:=by omega
     obtain⟨x,H⟩: ∃x,qY np p d i=x:=⟨_,rfl⟩
     have em:((f:Int)+i)%(np:Int)=x:=by rw[<-H,<-a3.out i];rfl
     by_cases C:x=p
     ·rw[C] at em
      have t:=aa (show k.map (·.1)=gD np p d (i+1) by rw[vy (H.trans C)];assumption)
      clear H C
      gi_wp2
      refine⟨fun _ h=>(by cases h),?_⟩
      gi_wp2
      go_roundw
      case rel=>exact⟨i+1,z_,by go_num,Y.out,k,t.out,G.out⟩
      case measure=>simp[intOf];omega
     ·have N:x<=np:=by rw[<-H];exact Nat.le_of_lt (Nat.mod_lt _ z_)
      have en:((x:Int) !=(p:Int))=true:=y_
      have t:=aa (show(k++[(⟨x,N⟩:Pl np)]).map (·.1)=gD np p d (i+1) by rw[r9 z_,List.map_append,E.out,H];rfl)
      have w:k.length<np+2:=by
       have:=C3 np p d i
       rw[<-E.out,List.length_map] at this
       omega
      obtain⟨fn,u,j,B,o,c⟩:=HY.out k ⟨x,N⟩ wr G.out w
      dsimp only at o
      have s:=aa c
      clear H w c
      gi_wp2
      refine s.out.mono ?_
      rintro e W3 (⟨rfl,T,O⟩|⟨rfl,y⟩)
      ·have a2:=aa (Y.out.fr HS.out O)
       have a4:=aa T
       clear T O o
       gi_wp2
       go_roundw
       case rel=>exact⟨i+1,z_,by go_num,a2.out,_,t.out,a4.out⟩
       case measure=>simp[intOf];omega
      ·have m:=aa y
       clear y o
       gi_wp2
       refine bodyPost_ret (results_none rfl _ _ _) rfl ?_
       refine⟨⟨_,rfl⟩,.inr ⟨_,?_,m.out⟩⟩
       rw[t.out]
       exact j7 z_
    ·obtain rfl:i=np:=by omega
     gi_wp2
     go_end0
     exact⟨⟨_,rfl⟩,.inl ⟨k,E.out,G.out⟩⟩
  ·have m:=aa z
   clear z
   gi_wp2
   refine bodyPost_ret (results_none rfl _ _ _) rfl ?_
   refine⟨⟨_,rfl⟩,.inr ⟨_,?_,m.out⟩⟩
   exact j7 (i:=0) (Nat.zero_le _)
 ·have m:=aa A
  clear A
  gi_wp2
  refine⟨trivial,?_⟩
  gi_wp2
  refine⟨fun _ h=>(by cases h),?_⟩
  gi_wp2
  refine bodyPost_ret (results_none rfl _ _ _) rfl ?_
  refine⟨⟨_,rfl⟩,.inr ⟨_,?_,m.out⟩⟩
  exact(show [p]<+:[p,np] from⟨[np],rfl⟩).trans (j7 (np:=np) (p:=p) (d:=d) (i:=0) (Nat.zero_le np))
end Go.Proofs.YtnmhcgpnhlhcgaaGreatDoor
namespace Go.Proofs.YtnmhcgpnhlhcgaaGreatDoor
open Go.RowKit Go.Shelf
def MM (H:List Hd) (x:Nat):List En:=match H[x]? with
 |some h=>h.M
 |none=>[]
def dL (H:List Hd) (b:Option Nat) (x:Nat):Option Nat:=match MM H x with
 |[]=>b
 |y::_=>match b with
  |none=>some x
  |some c=>if Ke.up y.2 (oK (MM H c)) then some x else some c
def lI (H:List Hd) (l:List Nat):Option Nat:=l.foldl (dL H) none
def bI (H:List Hd):Option Nat->Int
 |none=>0
 |some c=>KE (MM H c)
def bK (H:List Hd):Option Nat->Ke.K
 |none=>⟨false,0,0⟩
 |some c=>oK (MM H c)
def bA:Option Nat->Int
 |none=>0
 |some c=>(c:Int)
def fx (H:List Hd) (l:List Nat):Nat:=(l.map (fun x=>(MM H x).length)).sum
def xV (H:List Hd) (l:List Nat):Int:=(dR H:Int)-(fx H l:Int)
theorem eR {H:List Hd} {x:Nat} {h:Hd} (e:H[x]? =some h):MM H x=h.M:=by unfold MM;rw[e]
def wK (H:List Hd) (l:List Nat) (x:Nat):lI H (l++[x])=dL H (lI H l) x:=by unfold lI;simp
def GI (H:List Hd) (l:List Nat) (x:Nat):xV H (l++[x])=xV H l-((MM H x).length:Int):=by
 unfold xV fx
 grind
def vZ (H:List Hd): ∀(l r:List Nat),(∀x∈r,MM H x=[])->lI H (l++r)=lI H l
 |l,[],_=>by simp
 |l,x::r,h=>by
  have e:l++x::r=(l++[x])++r:=q_
  rw[e,vZ H (l++[x]) r (fun y a=>h y (by simp[a])),wK]
  unfold dL
  grind
def qd: ∀(l:List Nat) (H:List Hd),l.Nodup->fx H l<=dR H
 |[],_,_=>by simp[fx]
 |x::l,H,a=>by
  rw[yV0] at a
  cases b:H[x]? with
  |none=>
   have:=qd l H a.2
   have e:MM H x=[]:=by unfold MM;rw[b]
   simp only[fx,List.map_cons,List.sum_cons,e,List.length_nil] at this|-
   omega
  |some h=>
   have f:=qd l (H.set x (h.to 0 [])) a.2
   have i:=iX (y:=h.to 0 []) b
   have e:fx (H.set x (h.to 0 [])) l=fx H l:=by
    unfold fx
    congr 1
    refine List.map_congr_left (fun y g=> ?_)
    have c:x≠y:=fun q=>a.1 y_
    unfold MM
    grind
   have j:(h.to 0 []).M.length=0:=rfl
   have d:=eR b
   simp only[fx,List.map_cons,List.sum_cons,d] at*
   omega
def yZ (np p d:Nat) (k:p<np):(gy np p d).Nodup:=by
 have f: ∀i,qY np p d i<np:=fun i=>Nat.mod_lt _ z_
 have l:((List.range np).map (qY np p d)).Nodup:=by
  rw[List.Nodup,List.pairwise_map]
  refine List.Pairwise.imp_of_mem ?_ (List.nodup_range (n:=np))
  intro a b h g c
  rw[List.mem_range] at h g
  unfold qY
  intro e
  apply c
  have j:=Nat.div_add_mod (p+1+d%np+a) np
  have m:=Nat.div_add_mod (p+1+d%np+b) np
  rw[e] at j
  rcases Nat.lt_trichotomy ((p+1+d%np+a)/np) ((p+1+d%np+b)/np) with q|q|q
  ·have:=Nat.mul_le_mul_left np (show(p+1+d%np+a)/np+1<=(p+1+d%np+b)/np from q)
   grind
  ·grind
  ·have:=Nat.mul_le_mul_left np (show(p+1+d%np+b)/np+1<=(p+1+d%np+a)/np from q)
   grind
 unfold gy gD
 grind
def B4 (H:List Hd) (a p d:Nat) (e:p<a) (l:List Nat) (f:l<+:gy a p d) (h:xV H l=0):lI H (gy a p d)=lI H l:=by
 obtain⟨r,c⟩:=f
 have g:=qd (gy a p d) H (yZ a p d e)
 rw[<-c] at g|-
 unfold xV at h
 have j:fx H (l++r)=fx H l+fx H r:=by unfold fx;simp
 have b:fx H r=0:=z_
 refine vZ H l r (fun x i=> ?_)
 unfold fx at b
 rw[List.sum_eq_zero_iff_forall_eq_nat] at b
 simp_all
attribute [local go_sem] Oper.semAt_some
structure BC (W:World) (n0 pb:Nat) (i:Int) (k:Ke.K) (a:Int) (o:Bool) (ah:Int):Prop where
 b0:Boxed W n0 98 (ak pb)
 b1:Boxed W (n0+1) 3 (ab i)
 b2:W.heap[n0+2]? =some (.cells (bn k) 120 (0,0))
 b3:Boxed W (n0+3) 3 (ab a)
 b4:Boxed W (n0+4) 4 (.bool o)
 b5:Boxed W (n0+5) 3 (ab ah)
abbrev PZ (W:World) (c a:Nat) (H:List Hd) (b:Option Nat) (ah:Int):Prop:=BC W c a (bI H b) (bK H b) (bA b) b.isSome ah
def CS (c a p d:Nat) (w:World):
  CallsIn Fence.wide c Tryz.prog 157 #[ak a,ab p,aj d] w fun e b=>e= .returned (.func (.func 185) #[] #[ak (w.heap.size+1),ak w.heap.size,ak (w.heap.size+2)])/\
   b=((w.alloc (.cells #[ak a] 98)).alloc (.cells #[ab p] 3)).alloc (.cells #[aj d] 25):=by
 refine callsIn_of_wp Tryz.func157 rfl trivial ?_ rfl
 simp only[Tryz.ntmps157,j_,Nat.reduceAdd,Nat.reduceSub]
 gi_wp2
 go_ret
 simp
def fa {a:Nat} (l:List (Pl a)):List Nat:=l.map (·.1)
def nM {a:Nat} (l:List (Pl a)) (x:Pl a):fa (l++[x])=fa l++[x.1]:=by unfold fa;simp
def iY {W f:World} {B:Nat} {d:Array Value} {t:TypeId} {c:Nat×Nat} {a:Option Nat} (h:W.heap[B]? =some (.cells d t c)) (i:W.grownBy f a) (g: ∀r,a=some r-> ∃o:Obj,W.heap[r]? =some o/\o.isCells=false):f.heap[B]? =some (.cells d t c):=by
 rw[i.block B (zW0.1 h).1 (fun e=> ?_)]
 ·exact h
 ·obtain⟨o,b,j⟩:=g B e.symm
  rw[h] at b
  cases b
  cases j
theorem BC.kept {W W':World} {e d:Nat} {i:Int} {k:Ke.K} {a:Int} {o:Bool} {ah:Int} {row:Option Nat} (h:BC W e d i k a o ah) (c:W.grownBy W' row) (b: ∀r,row=some r-> ∃o:Obj,W.heap[r]? =some o/\o.isCells=false):BC W' e d i k a o ah:=
 ⟨iY h.b0 c b,iY h.b1 c b,iY h.b2 c b,iY h.b3 c b,iY h.b4 c b,iY h.b5 c b⟩
def BC.below {W W':World} {d c:Nat} {i:Int} {k:Ke.K} {a:Int} {o:Bool} {ah:Int} (h:BC W d c i k a o ah) (b:aC W W'):BC W' d c i k a o ah:=
 h.kept (row:=none) ⟨b.os,b.tape,b.output,b.size,fun k f _=>b.block k f⟩ (fun r e=>by cases e)
def dx {W:World} {B:Nat} {o:Obj} (h:W.heap[B]? =some o):W.drew.heap[B]? =some o:=h
def BC.drew {W:World} {c b:Nat} {i:Int} {k:Ke.K} {a:Int} {o:Bool} {ah:Int} (h:BC W c b i k a o ah):BC W.drew c b i k a o ah:=⟨h.b0,h.b1,h.b2,h.b3,h.b4,h.b5⟩
theorem BC.lt {W:World} {b c:Nat} {i:Int} {k:Ke.K} {a:Int} {o:Bool} {ah:Int} (h:BC W b c i k a o ah):b+5<W.heap.size:=(zW0.1 h.b5).1
theorem aw {W:World} {B c b:Nat} {v:Value} {x:Obj} (h:W.heap[c]? =some x) (d:c≠B):(W.setCell (af B b) v).heap[c]? =some x:=by
 rw[((Fr.refl (fun k=>k=B) W).setCell (a:=(af B b)) rfl v).block c (zW0.1 h).1 d]
 exact h
section
variable {W:World} {b c:Nat} {i:Int} {k:Ke.K} {a:Int} {o:Bool} {ah:Int}
def BC.s1 (h:BC W b c i k a o ah) (d:Int):BC (W.setCell (ao (b+1)) (ab d)) b c d k a o ah:=
 ⟨aw h.b0 z_,Go.Joins.block_setCell h.b1 _,aw h.b2 z_,aw h.b3 z_,aw h.b4 z_,aw h.b5 z_⟩
def BC.s2 (h:BC W b c i k a o ah) (f:Ke.K):BC (((W.setCell (ao (b+2)) (.bool f.e)).setCell (af (b+2) 1) (aj f.d)).setCell (af (b+2) 2) (aA f.l)) b c i f a o ah:=
 ⟨aw (aw (aw h.b0 z_) z_) z_,aw (aw (aw h.b1 z_) z_) z_,Go.Joins.block_setCell (Go.Joins.block_setCell (Go.Joins.block_setCell h.b2 _) _) _,aw (aw (aw h.b3 z_) z_) z_,aw (aw (aw h.b4 z_) z_) z_,aw (aw (aw h.b5 z_) z_) z_⟩
def BC.s3 (h:BC W b c i k a o ah) (d:Int):BC (W.setCell (ao (b+3)) (ab d)) b c i k d o ah:=
 ⟨aw h.b0 z_,aw h.b1 z_,aw h.b2 z_,Go.Joins.block_setCell h.b3 _,aw h.b4 z_,aw h.b5 z_⟩
def BC.s4 (h:BC W b c i k a o ah) (d:Bool):BC (W.setCell (ao (b+4)) (.bool d)) b c i k a d ah:=
 ⟨aw h.b0 z_,aw h.b1 z_,aw h.b2 z_,aw h.b3 z_,Go.Joins.block_setCell h.b4 _,aw h.b5 z_⟩
def BC.s5 (h:BC W b c i k a o ah) (ah':Int):BC (W.setCell (ao (b+5)) (ab ah')) b c i k a o ah':=
 ⟨aw h.b0 z_,aw h.b1 z_,aw h.b2 z_,aw h.b3 z_,aw h.b4 z_,Go.Joins.block_setCell h.b5 _⟩
def aG {B:Nat} {d:Array Value} {t:TypeId} (h:W.heap[B]? =some (.cells d t (0,0))) (j:Nat):W.cell? (af B j)=d[j]? /\W.frozen? (af B j)=false:=by
 unfold World.cell? World.frozen?
 grind
def BC.cells (h:BC W b c i k a o ah):W.cell? (ao b)=some (ak c)/\W.cell? (ao (b+1))=some (ab i)/\(W.cell? (ao (b+2))=some (.bool k.e)/\W.cell? (af (b+2) 1)=some (aj k.d)/\W.cell? (af (b+2) 2)=some (aA k.l))/\W.cell? (ao (b+3))=some (ab a)/\W.cell? (ao (b+4))=some (.bool o)/\W.cell? (ao (b+5))=some (ab ah):=
 ⟨(aG h.b0 0).1,(aG h.b1 0).1,⟨(aG h.b2 0).1,(aG h.b2 1).1,(aG h.b2 2).1⟩,(aG h.b3 0).1,(aG h.b4 0).1,(aG h.b5 0).1⟩
def BC.free (h:BC W b c i k a o ah):W.frozen? (ao (b+1))=false/\(W.frozen? (ao (b+2))=false/\W.frozen? (af (b+2) 1)=false/\W.frozen? (af (b+2) 2)=false)/\W.frozen? (ao (b+3))=false/\W.frozen? (ao (b+4))=false/\W.frozen? (ao (b+5))=false:=
 ⟨(aG h.b1 0).2,⟨(aG h.b2 0).2,(aG h.b2 1).2,(aG h.b2 2).2⟩,(aG h.b3 0).2,(aG h.b4 0).2,(aG h.b5 0).2⟩
end
def SB (a k:Nat):Prop:=(a+1<=k/\k<=a+5)\/a+9<=k
def gE (i:Nat) (n:1<=i) (g B2 f h b p d:Nat) (a:Option Addr) (c:Nat) (m:p<b) (j:b<=64) (s:d<18446744073709551616) (S:Nat->Prop) (v: ¬S g/\ ¬S B2/\ ¬S f/\ ¬S h) (w:World) (y:KQ w g B2 f h b p d a c):
  SeqStopsK Fence.wide i Tryz.prog 185 #[ak g,ak B2,ak f] (fun x:Pl b=> #[Value.int .i64 (x.1:Int)]) (Fr S) (fun k=>fa k=gy b p d) (fun pre=>fa pre<+:gy b p d) (b+2) w:=by
 intro l J C W u A z t B
 refine kh i n l g B2 f h b p d a c m j s S v J C t (fun pre W q o=>A pre W (W.drewN q) none o ⟨rfl,rfl,rfl,aT,fun _ _ _=>rfl⟩ (fun r e=>by cases e)) W ?_ B
 exact y.fr (S:=fun _=>False) ⟨id,id,id,id⟩ (Fr.aF u)
def qO {S:Nat->Prop} {w:World} {B:Nat} (c: ∀k,B<=k->S k) (h:B<=w.heap.size) (W:World) (l:Nat) (o a:Obj) (f:w.heap.size<=l) (d:W.heap[l]? =some o) (g:o.isCells=false) (hw:o.isWalk=false):Fr S W (W.putObj l a):=
 ⟨rfl,rfl,rfl,q_,fun k _ b=>World.putObj_heap_other (fun e=>b (c k z_))⟩
def tV {W W':World} (h:aC W W'):KeepsOthers W W':=⟨h.size,fun k o a _=>(h.block k (zW0.1 a).1).trans a⟩
def ua (W:World) (o:Obj) (k:Nat) (a:W.heap.size=k):(W.alloc o).heap[k]? =some o:=by subst a;exact yW0 W o
def sW {W:World} (o:Obj) {k:Nat} {x:Obj} (h:W.heap[k]? =some x):(W.alloc o).heap[k]? =some x:=(zU0 _ _ _ (zW0.1 h).1).trans h
def wV {H:List Hd} (h: ∀x,(MM H x).length<=1024): ∀l:List Nat,fx H l<=l.length*1024
 |[]=>by simp[fx]
 |x::l=>by
  have a:=h x
  have:=wV h l
  simp only[fx,List.map_cons,List.sum_cons,List.length_cons,Nat.add_mul,Nat.one_mul] at this|-
  omega
def jd.mm {w:World} {a lo c d n b q:Nat} {v:Value} {H:List Hd} (h:jd w a lo c d n b q v H) (x:Nat):(MM H x).length<=1024:=by
 unfold MM
 cases e:H[x]? with
 |none=>simp
 |some y=>
  have g:=(h.sets.it x y e).fit
  have f:=h.n1
  have:mY b n q x<=n:=by unfold mY;grind
  grind
structure RW (n0:Nat) (W W':World):Prop where
 fr:Fr (SB n0) W W'
 ko:KeepsOthers W W'
 be:Below n0 W W'
 hz:n0+9<=W'.heap.size
section
variable {b:Nat} {W W' W'':World}
theorem RW.refl (h:b+9<=W.heap.size):RW b W W:=⟨Fr.refl _ _,KeepsOthers.refl _,cj,h⟩
def RW.below (h:RW b W W') (a:aC W' W''):RW b W W'':=
 ⟨h.fr.trans (Fr.aF a),h.ko.trans (tV a),h.be.trans (a.mono (by have:=h.hz;omega)),zY0 h.hz a.size⟩
def RW.set (h:RW b W W') {B c:Nat} (e:b+1<=B) (d:B<=b+5) (v:Value):RW b W (W'.setCell (af B c) v):=
 ⟨h.fr.setCell (a:=(af B c)) (.inl ⟨e,d⟩) v,h.ko.trans (yX0 _ _ _),h.be.setCell (p:=(af B c)) y_ v,zY0 h.hz ((Fr.refl (fun k=>k=B) W').setCell (a:=(af B c)) rfl v).size⟩
def RW.drew (h:RW b W W'):RW b W W'.drew:=⟨⟨h.fr.os,h.fr.tape,h.fr.output,h.fr.size,h.fr.block⟩,⟨h.ko.size,h.ko.same⟩,⟨h.be.os,h.be.tape,h.be.output,h.be.size,h.be.block⟩,h.hz⟩
end
attribute [local go_sem ↓] Go.wp_at_zero Go.wp_at_succ
structure BR (n0:Nat) (W0:World) (pb:Nat) (W:World) (i:Int) (k:Ke.K) (a:Int) (o:Bool) (ah:Int):Prop where
 bc:BC W n0 pb i k a o ah
 rw:RW n0 W0 W
section
variable {b c:Nat} {W0 W W':World} {i:Int} {k:Ke.K} {a:Int} {o:Bool} {ah:Int}
def BR.below (h:BR b W0 c W i k a o ah) (d:aC W W'):BR b W0 c W' i k a o ah:=⟨h.bc.below d,h.rw.below d⟩
def BR.drew (h:BR b W0 c W i k a o ah):BR b W0 c W.drew i k a o ah:=⟨h.bc.drew,h.rw.drew⟩
def BR.ud (h:BR b W0 c W.drew i k a o ah):BR b W0 c W i k a o ah:=h.below ⟨rfl,rfl,rfl,aT,fun _ _=>rfl⟩
def BR.new (h:BR b W0 c W i k a o ah) (x:Obj):BR b W0 c (W.alloc x) i k a o ah:=h.below ((i4 _ W).alloc aT x)
def BR.s1 (h:BR b W0 c W i k a o ah) (d:Int):BR b W0 c (W.setCell (ao (b+1)) (ab d)) d k a o ah:=⟨h.bc.s1 d,h.rw.set z_ z_ _⟩
def BR.s2 (h:BR b W0 c W i k a o ah) (f:Ke.K):BR b W0 c (((W.setCell (ao (b+2)) (.bool f.e)).setCell (af (b+2) 1) (aj f.d)).setCell (af (b+2) 2) (aA f.l)) i f a o ah:=
 ⟨h.bc.s2 f,((h.rw.set z_ z_ _).set z_ z_ _).set z_ z_ _⟩
def BR.s3 (h:BR b W0 c W i k a o ah) (d:Int):BR b W0 c (W.setCell (ao (b+3)) (ab d)) i k d o ah:=⟨h.bc.s3 d,h.rw.set z_ z_ _⟩
def BR.s4 (h:BR b W0 c W i k a o ah) (d:Bool):BR b W0 c (W.setCell (ao (b+4)) (.bool d)) i k a d ah:=⟨h.bc.s4 d,h.rw.set z_ z_ _⟩
def BR.s5 (h:BR b W0 c W i k a o ah) (t:Int):BR b W0 c (W.setCell (ao (b+5)) (ab t)) i k a o t:=⟨h.bc.s5 t,h.rw.set z_ z_ _⟩
def BS (b:Nat) (W0:World) (c:Nat) (i:Int) (k:Ke.K) (a:Int) (o:Bool) (ah:Int) (W:World):Prop:=
 W.cell? (ao (b+1))=some (ab i)/\W.cell? (ao (b+2))=some (.bool k.e)/\W.cell? (af (b+2) 1)=some (aj k.d)/\W.cell? (af (b+2) 2)=some (aA k.l)/\W.cell? (ao (b+3))=some (ab a)/\W.cell? (ao (b+4))=some (.bool o)/\BR b W0 c W i k a o ah
def BR.bs (h:BR b W0 c W i k a o ah):BS b W0 c i k a o ah W:=by
 obtain⟨_,l,⟨j,g,f⟩,e,d,_⟩:=h.bc.cells
 exact⟨l,j,g,f,e,d,h⟩
def BS.br (h:BS b W0 c i k a o ah W):BR b W0 c W i k a o ah:=h.2.2.2.2.2.2
end
def KS (b:Nat) (k:Ke.K) (W:World):Prop:=
 W.cell? (ao b)=some (.bool k.e)/\W.cell? (af b 1)=some (aj k.d)/\W.cell? (af b 2)=some (aA k.l)/\W.heap[b]? =some (.cells (bn k) 120)
def KS.of {b:Nat} {k:Ke.K} {W:World} (h:W.heap[b]? =some (.cells (bn k) 120)):KS b k W:=⟨(aG h 0).1,(aG h 1).1,(aG h 2).1,h⟩
theorem KS.fM {b:Nat} {k:Ke.K} {W:World} (h:KS b k W.drew) {B a:Nat} (v:Value) (c:b≠B):KS b k (W.setCell (af B a) v).drew:= .of (dx (aw h.2.2.2 c))
def Fh {H:List Hd} {b:Option Nat} {x:Nat} {c:Bool} (e:(MR (MM H x)&&(!b.isSome||Ke.up (oK (MM H x)) (bK H b)))=c):
  bI H (dL H b x)=cond c (KE (MM H x)) (bI H b)/\bK H (dL H b x)=cond c (oK (MM H x)) (bK H b)/\bA (dL H b x)=cond c (x:Int) (bA b)/\(dL H b x).isSome=cond c true b.isSome:=by
 subst e
 unfold dL
 cases a:MM H x with
 |nil=>simp[MR]
 |cons z m=>
  cases b with
  |none=>simp[MR,bI,bK,bA,a]
  |some d=>
   cases f:Ke.up z.2 (oK (MM H d))<;>simp[MR,oK,bI,bK,bA,a]<;>simp_all [MR,oK,bI,bK,bA]
section
variable {w w' e d:World} {b lo pb c n a q T g cap:Nat} {v:Value} {H:List Hd}
def D7 (h:jd w b lo pb c n a q (.slice (some (ao g)) (a+1) cap) H) (p j:Nat) (hp:p<a) (hd:j<18446744073709551616):
  CallsIn Fence.wide 6 Tryz.prog 118 #[ak pb,ab p,aj j] w fun f w'=>f=aS #[ab (bI H (lI H (gy a p j))),.agg (bn (bK H (lI H (gy a p j)))),ab (bA (lI H (gy a p j))),.bool (lI H (gy a p j)).isSome]/\aC w w':=by
 have HP:Hid (∀W,aC w W->jd W b lo pb c n a q (.slice (some (ao g)) (a+1) cap) H):=fun W hW=>h.below hW
 have e8:=aa (fun W hW=>(callsIn_wide (n:=5)).2 (AB (HP.out W hW) p hp))
 have e7:=aa (fun W hW=>(callsIn_wide (n:=5)).2 (Jy (HP.out W hW)))
 have f3:=h.np1
 have g7:=h.len
 have g9:=h.LR
 have g0:=h.lx
 refine callsIn_of_wp_marks Tryz.func118 rfl trivial ?_ rfl
 simp only[Tryz.ntmps118,j_,Nat.reduceAdd,Nat.reduceSub]
 have a8:aC w (((((w.alloc (.cells #[ak pb] 98)).alloc (.cells #[ab 0] 3)).alloc (.cells #[.bool false,aj 0,aA 0] 120)).alloc (.cells #[ab 0] 3)).alloc (.cells #[.bool false] 4)):=(((((i4 _ w).alloc aT _).alloc q_ _).alloc (by simp;omega) _).alloc (by simp;omega) _).alloc (by simp;omega) _
 have e9:=aa a8
 have b8:=aa ((((a8.alloc (by simp;omega) (.cells #[ab (dR H:Int)] 3)).alloc (by simp;omega) (.cells #[ak pb] 98)).alloc (by simp;omega) (.cells #[ab p] 3)).alloc (by simp;omega) (.cells #[aj j] 25))
 clear a8 h
 gi_wp2
 refine wpIn_wide.2 (wp_scope_straight ((wpIn_wide (n:=6)).1 ?_))
 gi_wp2_with (first
  |(refine⟨trivial,?_⟩;gi_at_call 147;refine(e8.out _ e9.out).mono ?_;rintro f I ⟨rfl,a4⟩;replace a4:=a4.symm;subst a4)
  |(refine⟨trivial,?_⟩;gi_at_call 156;refine(e7.out _ e9.out).mono ?_;rintro f w2 ⟨rfl,a3⟩;replace a3:=a3.symm;subst a3))
 refine wpIn_wide.2 (wp_label ?_)
 gi_wp2_with (refine⟨trivial,?_⟩;gi_at_call 157;refine(CS _ pb p j _).mono ?_;rintro f w3 ⟨rfl,f2⟩;subst f2)
 simp only[Nat.add_assoc,Nat.reduceAdd]
 obtain⟨W0,Q⟩: ∃W0,(((((((((w.alloc (.cells #[ak pb] 98)).alloc (.cells #[ab 0] 3)).alloc (.cells #[.bool false,aj 0,aA 0] 120)).alloc (.cells #[ab 0] 3)).alloc (.cells #[.bool false] 4)).alloc (.cells #[ab (dR H:Int)] 3)).alloc (.cells #[ak pb] 98)).alloc (.cells #[ab p] 3)).alloc (.cells #[aj j] 25))=W0:=⟨_,rfl⟩
 rw[Q] at b8|-
 have hz:W0.heap.size=w.heap.size+9:=by rw[<-Q];simp
 have c1:PZ W0 w.heap.size pb H none (dR H:Int):=by
  rw[<-Q]
  refine⟨?_,?_,?_,?_,?_,?_⟩<;>(try unfold Boxed)<;>(repeat(first|(refine ua _ _ _ ?_;simp;done)|refine sW _ ?_))
 have x6:Boxed W0 (w.heap.size+6) 98 (ak pb):=by
  rw[<-Q];unfold Boxed
  repeat(first|(refine ua _ _ _ ?_;simp)|refine sW _ ?_)
 have x7:Boxed W0 (w.heap.size+7) 3 (ab p):=by
  rw[<-Q];unfold Boxed
  repeat(first|(refine ua _ _ _ ?_;simp)|refine sW _ ?_)
 have x8:Boxed W0 (w.heap.size+8) 25 (aj j):=by
  rw[<-Q];unfold Boxed
  repeat(first|(refine ua _ _ _ ?_;simp)|refine sW _ ?_)
 have a6:KQ W0 (w.heap.size+7) (w.heap.size+6) (w.heap.size+8) pb a p j (some (ao g)) cap:=⟨z_,z_,z_,z_,x7.cell,x6.cell,x8.cell,(HP.out _ b8.out).c0⟩
 have hS: ¬SB w.heap.size (w.heap.size+7)/\ ¬SB w.heap.size (w.heap.size+6)/\ ¬SB w.heap.size (w.heap.size+8)/\ ¬SB w.heap.size pb:=by
  unfold SB;omega
 clear Q
 refine wpIn_rangeFunc_ownF rfl x_ (gf:=185) (lb:= #[ak (w.heap.size+7),ak (w.heap.size+6),ak (w.heap.size+8)]) rfl trivial (enters_of Tryz.func185 (by rfl) rfl)
  (gE 5 x_ (w.heap.size+7) (w.heap.size+6) (w.heap.size+8) pb a p j (some (ao g)) cap hp f3.2 hd (SB w.heap.size) hS W0 a6) (fun A z=>A.trans z) (qO (B:=w.heap.size+9) (fun k hk=> .inr hk) z_) cj (fun _=>rfl)
  (fun (pre:List (Pl a)) (W:World)=>(PZ W w.heap.size pb H (lI H (fa pre)) (xV H (fa pre))/\W0.heap.size<=W.heap.size)/\aC w W)
  (fun (m:Code) (pre:List (Pl a)) (W:World)=>m= .exit 0/\(∃(J:List (Pl a)) (x:Pl a),pre=J++[x]/\xV H (fa J)=0/\PZ W w.heap.size pb H (lI H (fa J)) 0/\W0.heap.size<=W.heap.size)/\aC w W)
  (fun s W W' f0 hs hg hr=>⟨⟨BC.kept hs.1.1 hg (fun r f=>(hr r f).2),zY0 hs.1.2 hg.size⟩,hs.2.grown hg hs.2.size (fun k f=>by grind)⟩)
  (fun m s W W' f0 hs hg hr=>⟨hs.1,hs.2.1.imp (fun J=>Exists.imp (fun x q=>⟨q.1,q.2.1,BC.kept q.2.2.1 hg (fun r f=>(hr r f).2),zY0 q.2.2.2 hg.size⟩)),hs.2.2.grown hg hs.2.2.size (fun k f=>by grind)⟩)
  ⟨by have e1:lI H (fa ([]:List (Pl a)))=none:=rfl;have e2:xV H (fa ([]:List (Pl a)))=(dR H:Int):=(by rfl);grind,b8.out⟩
  (fun x=>{tmps:= #[ak pb,ab p,aj j,ak w.heap.size,undef,undef,ak (w.heap.size+1),ak (w.heap.size+2),ak (w.heap.size+3),ak (w.heap.size+4),ak (w.heap.size+5),ab x.1,undef,undef,undef,ak pb,ab p,.bool true,.bool false,undef,ak pb,ab (dR H:Int),ak pb,ab p,aj j,.func (.func 185) #[] #[ak (w.heap.size+7),ak (w.heap.size+6),ak (w.heap.size+8)],ab x.1,undef,undef,undef,undef,undef,undef,undef,undef,undef,undef,undef,undef,undef,undef,undef,undef,undef,undef,undef,undef,undef,undef,undef,undef,undef,undef,undef,undef,undef,undef,undef,undef,undef,undef,undef,undef,undef,undef,undef,undef,undef,undef,undef],defers:=[]}) ?assign ?body ?done ?stop
 case assign=>
  intro l x W K L
  gi_wp2
  exact L
 case body=>
  rintro l pre ⟨x,hx⟩ W ⟨⟨Y,c8⟩,F⟩ h3
  have b9:x<H.length:=z_
  obtain⟨y,hy⟩: ∃y,H[x]? =some y:=⟨H[x],zX0 b9⟩
  have hM:=eR hy
  have f6:=aa (show lI H (fa (pre++[(⟨x,hx⟩:Pl a)]))=dL H (lI H (fa pre)) x by rw[nM,wK])
  have f8:=aa (show xV H (fa (pre++[(⟨x,hx⟩:Pl a)]))=xV H (fa pre)-(y.M.length:Int) by rw[nM,GI,hM])
  dsimp only
  have a7:(fa pre).length<=65:=by unfold fa;grind
  obtain⟨c0,_,_,c3,_⟩:=(HP.out _ F).view
  have c4:=c3 x y hy
  have a0:=Y.b0.cell
  have R:=aa (FD ((HP.out _ F).sets.it x y hy))
  have HR:=aa (BR.mk Y (RW.refl z_))
  have O:=aa F
  have g8:y.M.length<=1024:=by rw[<-hM];exact(HP.out _ F).mm x
  have c7: -70000<=xV H (fa pre)/\xV H (fa pre)<=70000:=by
   have h1:=wV (HP.out _ F).mm (fa pre)
   have h2:(fa pre).length*1024<=65*1024:=Nat.mul_le_mul_right _ a7
   unfold xV
   omega
  have a9:Hid (∀V i k A o t,BR w.heap.size W pb V i k A o t->V.cell? (ao w.heap.size)=some (ak pb)/\V.cell? (ao pb)=some (.slice (some (ao g)) (a+1) cap)/\V.cell? (af g x)=some (ak y.sb)):=fun V i k A o t r=>by
   have v:=(HP.out _ (O.out.trans r.rw.be)).view
   exact⟨r.bc.cells.1,v.1,v.2.2.2.1 x y hy⟩
  have f5:Hid (∀V,aC w V->aB 159 #[ak y.sb] V fun f w'=>f= .returned (ab y.M.length)/\aC V w'):=fun V hV=>KK ((HP.out V hV).sets.it x y hy)
  have a1:=aa (fun m=> @Fh H (lI H (fa pre)) x m)
  rw[hM] at a1
  have e6:=aa (fun W=>Ke.pY W (oK y.M) (bK H (lI H (fa pre))))
  clear Y F c3 hy hM b9 c1 a6 hS x6 x7 x8
  generalize f4:lI H (fa pre)=z at*
  have b1:(x:Int)<a+1:=z_
  have b2:(x:Int)<((a+1:Nat):Int):=z_
  have b3:x<a+1:=z_
  have b4: ¬(x:Int)<0:=z_
  by_cases h0:xV H (fa pre)=0
  ·have f9:=aa h0
   rw[h0] at HR
   clear h0
   gi_wp2_with (refine⟨trivial,?_⟩;gi_at_call 158;refine(CallsIn.inRound l (callsIn_wide.2 R.out)).mono ?_;rintro f I ⟨rfl,N⟩;have E:=aa (HR.out.below N);have a5:=E.out.bc.b5.cell;have z1:=BC.lt E.out.bc;clear N)
   have C:=aa (E.out.new (.cells (bn (oK y.M)) 120))
   refine⟨C.out.rw.ko,rfl,⟨pre,_,rfl,f9.out,?_,by have:=C.out.rw.hz;simp only[bn] at this;omega⟩,O.out.trans C.out.rw.be⟩
   rw[f4]
   exact C.out.bc
  ·have h9:=aa h0
   obtain⟨c7,h5⟩:=c7
   generalize xV H (fa pre)=ah at*
   generalize y.M.length=ln at*
   have ew:IntKind.i64.wrap (ah-(ln:Int))=ah-(ln:Int):=by simp[IntKind.wrap,IntKind.bits,IntKind.signed];omega
   generalize Ke.up (oK y.M) (bK H z)=u at*
   generalize KE y.M=ti at*
   generalize oK y.M=G at*
   generalize MR y.M=tq at*
   generalize bI H z=bi at*
   generalize bK H z=bk at*
   generalize bA z=bx at*
   generalize z.isSome=bf at*
   by_cases P:(tq&&(!bf||u))=true
   case' neg=>
    rw[Bool.not_eq_true] at P
    obtain⟨e1,e2,e3,e4⟩:=a1.out _ P
    cases tq
    case' false=>gi_wp2_with (refine⟨trivial,?_⟩;gi_at_call 158;refine(CallsIn.inRound l (callsIn_wide.2 R.out)).mono ?_;rintro f I ⟨rfl,N⟩;have E:=aa (HR.out.below N);obtain⟨d9,d8,⟨d7,d6,d5⟩,d4,d3,c9⟩:=E.out.bc.cells;have z1:=BC.lt E.out.bc;have z2:w.heap.size<I.heap.size:=z_;have z3:w.heap.size+1<I.heap.size:=z_;have z4:w.heap.size+2<I.heap.size:=z_;have z5:w.heap.size+3<I.heap.size:=z_;have z6:w.heap.size+4<I.heap.size:=z_;clear N)
    case' true=>
     cases bf
     ·simp at P
     cases u
     case' true=>simp at P
     gi_wp2_with (first|(refine⟨trivial,?_⟩;gi_at_call 158;refine(CallsIn.inRound l (callsIn_wide.2 R.out)).mono ?_;rintro f I ⟨rfl,N⟩;have E:=aa (HR.out.below N);obtain⟨d9,d8,⟨d7,d6,d5⟩,d4,d3,c9⟩:=E.out.bc.cells;have z1:=BC.lt E.out.bc;have z2:w.heap.size<I.heap.size:=z_;have z3:w.heap.size+1<I.heap.size:=z_;have z4:w.heap.size+2<I.heap.size:=z_;have z5:w.heap.size+3<I.heap.size:=z_;have z6:w.heap.size+4<I.heap.size:=z_;clear N)|(refine⟨trivial,?_⟩;gi_at_call 119;refine(CallsIn.inRound l (callsIn_wide.2 (e6.out _))).mono ?_;rintro f w2 ⟨rfl,Z⟩;have U:=aa Z;clear Z))
    all_goals first
     |(rename_i q1 q2;exact absurd q1 (by simp[undef]);done)
     |skip
    all_goals (try refine⟨trivial,?_⟩)
    all_goals (try gi_wp2)
    all_goals first
     |(have C:=aa ((E.out.new (.cells (bn G) 120)).below U.out);generalize w2=Wc at*)
     |(have C:=aa (E.out.new (.cells (bn G) 120));generalize I.alloc (.cells (bn G) 120)=Wc at*)
    all_goals have HT:=aa C.out
   case' pos=>
    obtain⟨e1,e2,e3,e4⟩:=a1.out _ P
    cases tq
    ·simp at P
    cases bf
    case' true=>
     cases u
     ·simp at P
    all_goals
     gi_wp2_with (first|(refine⟨trivial,?_⟩;gi_at_call 158;refine(CallsIn.inRound l (callsIn_wide.2 R.out)).mono ?_;rintro f I ⟨rfl,N⟩;have E:=aa (HR.out.below N);obtain⟨d9,d8,⟨d7,d6,d5⟩,d4,d3,c9⟩:=E.out.bc.cells;have z1:=BC.lt E.out.bc;have z2:w.heap.size<I.heap.size:=z_;have z3:w.heap.size+1<I.heap.size:=z_;have z4:w.heap.size+2<I.heap.size:=z_;have z5:w.heap.size+3<I.heap.size:=z_;have z6:w.heap.size+4<I.heap.size:=z_;clear N)|(refine⟨trivial,?_⟩;gi_at_call 119;refine(CallsIn.inRound l (callsIn_wide.2 (e6.out _))).mono ?_;rintro f w2 ⟨rfl,Z⟩;have U:=aa Z;clear Z))
    all_goals (try refine⟨trivial,?_⟩)
    all_goals (try gi_wp2)
    all_goals first
     |(have C:=aa ((E.out.new (.cells (bn G) 120)).below U.out);have b6:=aa (show w2.heap[I.heap.size]? =some (.cells (bn G) 120) from(U.out.block _ q_).trans (yW0 I _));generalize w2=Wd at*)
     |(have C:=aa (E.out.new (.cells (bn G) 120));have b6:=aa (show(I.alloc (.cells (bn G) 120)).heap[I.heap.size]? =some (.cells (bn G) 120) from yW0 I _);generalize I.alloc (.cells (bn G) 120)=Wd at*)
    all_goals
     obtain⟨_,g1,⟨g2,g3,g4⟩,g5,g6,_⟩:=C.out.bc.cells
     obtain⟨q1,⟨q2,q3,q4⟩,q5,q6,_⟩:=C.out.bc.free
     have h4:w.heap.size+9<=I.heap.size:=E.out.rw.hz
     refine fe (KS I.heap.size G) (by rfl) (by kernel_rfl) (by rintro⟨A,w,h⟩;assumption) (KS.of (dx b6.out)) (fun hHeld=> ?_)
     refine st ?_
     repeat' first
      |refine dn ?_
      |refine tk ?_
      |refine rd ?_
      |exact oA
      |refine oE ?_
      |refine oC ?_ ?_
      | (refine dU _ (fun K L=> ?_)
         go_simp
         refine L.out _ _ ?_ (fun hHeld=> ?_)
         ·first|with_reducible exact hHeld.fM _ (by omega)|with_reducible exact((hHeld.fM _ z_).fM _ z_).fM _ z_
         clear L K
         try simp only[cV])
     refine⟨?_⟩
     have HT:=aa (((((C.out.s1 ti).s2 G).s3 (x:Int)).s4 true).drew)
     clear g1 g2 g3 g4 g5 g6 q1 q2 q3 q4 q5 q6 b6 hHeld C
     generalize ((((((Wd.setCell (ao (w.heap.size+1)) (ab ti)).setCell (ao (w.heap.size+2)) (.bool G.e)).setCell (af (w.heap.size+2) 1) (aj G.d)).setCell (af (w.heap.size+2) 2) (aA G.l)).setCell (ao (w.heap.size+3)) (ab x)).setCell (ao (w.heap.size+4)) (.bool true)).drew=Wc at*
     gi_wp2
   all_goals
    have E1:=aa e1
    have E2:=aa e2
    have E3:=aa e3
    have E4:=aa e4
    clear e1 e2 e3 e4 a1
    have b7:=aa (O.out.trans HT.out.rw.be)
    obtain⟨d0,d1,d2⟩:=a9.out _ _ _ _ _ _ HT.out
    obtain⟨e0,_,_,_,_,e5⟩:=HT.out.bc.cells
    refine fe (fun w'=>w'.cell? (ao w.heap.size)=some (ak pb)/\w'.cell? (ao pb)=some (.slice (some (ao g)) (a+1) cap)/\w'.cell? (af g x)=some (ak y.sb)) (by rfl) (by kernel_rfl) (by rintro⟨A,w,h⟩;assumption) ⟨d0,d1,d2⟩ (fun hHeld=> ?_)
    refine st ?_
    repeat' first
     |refine dn ?_
     |refine tk ?_
     |refine rd ?_
     |exact oA
     |refine oE ?_
     |refine oC ?_ ?_
     | (refine dU 8 (fun K L=> ?_)
        go_simp
        go_at_call 159
        refine(f5.out _ (by exact aK b7.out rfl rfl rfl rfl)).mono ?_
        rintro f w5 ⟨rfl,c6⟩
        have a2:=aa (HT.out.below (show aC Wc w5 from lr c6 rfl rfl rfl rfl))
        obtain⟨_,_,_,_,_,h8⟩:=a2.out.bc.cells
        obtain⟨_,_,_,_,h7⟩:=a2.out.bc.free
        clear c6
        refine L.out _ _ ?_ (fun hHeld=> ?_)
        ·exact a9.out _ _ _ _ _ _ a2.out
        clear L K
        try simp only[cV])
     | (refine dU 10 (fun K L=> ?_)
        go_simp
        have X:=aa (a2.out.s5 (ah-(ln:Int)))
        refine L.out _ _ ?_ (fun hHeld=> ?_)
        ·exact a9.out _ _ _ _ _ _ X.out
        clear L K
        try simp only[cV])
     | (refine dU _ (fun K L=> ?_)
        go_simp
        refine L.out _ _ ?_ (fun hHeld=> ?_)
        ·exact hHeld
        clear L K
        try simp only[cV])
    all_goals
     refine⟨?_⟩
     gi_wp2
     refine⟨X.out.rw.ko,X.out.rw.fr,⟨?_,by rw[hz];exact X.out.rw.hz⟩,O.out.trans X.out.rw.be⟩
     rw[f6.out,f8.out]
     show BC _ _ _ _ _ _ _ _
     rw[E1.out,E2.out,E3.out,E4.out]
     exact X.out.bc
 case' done=>
  rintro D ys W hD f1 ⟨⟨Y,c8⟩,F⟩ L
  rw[f1] at Y
 case' stop=>
  rintro D m pre W hD c2 ⟨rfl,⟨J,x,rfl,ha,Y,c8⟩,F⟩ L
  have f:=B4 H a p j hp (fa J) ((show fa J<+:fa (J++[x]) by rw[nM];exact List.prefix_append _ _).trans c2) ha
  rw[<-f] at Y
 all_goals
  generalize c5:lI H (gy a p j)=z at Y
  have f7:=aa c5
  have HR:=aa (BR.mk Y (RW.refl z_))
  obtain⟨_,g1,⟨g2,g3,g4⟩,g5,g6,_⟩:=BC.cells Y
  obtain⟨q1,⟨q2,q3,q4⟩,q5,q6,_⟩:=BC.free Y
  have HK:=aa L
  have O:=aa F
  clear c5 Y L F c1 a6 hS x6 x7 x8
  gi_wp2
  refine wpIn_wide.2 ?_
  refine wp_region_noPanic ?_
  refine wp_region_held_drew (S:=BS w.heap.size W pb (bI H z) (bK H z) (bA z) z.isSome _) (by rfl) HR.out.drew.bs (fun hHeld=> ?_)
  refine st ?_
  repeat' first
   |refine dn ?_
   |refine tk ?_
   |refine rd ?_
   |exact oA
   |refine oE ?_
   |refine oC ?_ ?_
   | (refine dU _ (fun K L=> ?_)
      go_simp
      refine L.out _ _ ?_ (fun hHeld=> ?_)
      ·first|with_reducible exact(hHeld.br.ud.s1 _).drew.bs|with_reducible exact(hHeld.br.ud.s2 _).drew.bs|with_reducible exact(hHeld.br.ud.s3 _).drew.bs|with_reducible exact(hHeld.br.ud.s4 _).drew.bs
      clear L K
      try simp only[cV])
  refine⟨?_⟩
  have C:=aa hHeld.br
  have L:=C.out.rw.ko.same D _ HK.out rfl
  clear g1 g2 g3 g4 g5 g6 q1 q2 q3 q4 q5 q6 hHeld HK
  generalize ((((((W.setCell (ao (w.heap.size+1)) (ab (bI H z))).setCell (ao (w.heap.size+2)) (.bool (bK H z).e)).setCell (af (w.heap.size+2) 1) (aj (bK H z).d)).setCell (af (w.heap.size+2) 2) (aA (bK H z).l)).setCell (ao (w.heap.size+3)) (ab (bA z))).setCell (ao (w.heap.size+4)) (.bool z.isSome)).drew=Wc at*
  have h6:w.heap.size+9<=D:=z_
  obtain⟨_,g1,⟨g2,g3,g4⟩,g5,g6,_⟩:=BC.cells (BC.kept C.out.bc (grownBy_putObj' Wc D (.deferred none)) (fun r f=>by cases f;exact⟨_,L,rfl⟩))
  simp only[NoPanic]
  go_wp2
  gi_wp2
  try simp only[Exit.noGoto]
  refine⟨q_,.inl ⟨_,_,rfl,run_takeDeferred L,?_⟩⟩
  refine⟨_,?_,rfl,(O.out.trans C.out.rw.be).trans (belowK_b (w:=w) aT Wc D _ _ z_ L rfl rfl)⟩
  simp[results,Tryz.f118,go_sem,g1,g2,g3,g4,g5,g6,f7.out]
end
end Go.Proofs.YtnmhcgpnhlhcgaaGreatDoor
namespace Go.Proofs.YtnmhcgpnhlhcgaaGreatDoor
open Go.RowKit Go.Shelf
attribute [local go_sem] Oper.semAt_some
section
variable {w j i f:World} {b lo d e n a q T g c:Nat} {v:Value} {H:List Hd}
def uJ (h:jd w b lo d e n a q (.slice (some (ao g)) (a+1) c) H) (p k:Nat) (l:p<a) (m:k<18446744073709551616):
  vQ 118 #[ak d,ab p,aj k] w (.tuple #[ab (bI H (lI H (gy a p k))),.agg (bn (bK H (lI H (gy a p k)))),ab (bA (lI H (gy a p k))),.bool (lI H (gy a p k)).isSome]):=
 callsIn_wide.1 (D7 h p k l m)
end
end Go.Proofs.YtnmhcgpnhlhcgaaGreatDoor
namespace Go.Proofs.YtnmhcgpnhlhcgaaGreatDoor
open Go.RowKit Go.Lib
attribute [local go_sem ↓] Go.wp_at_zero Go.wp_at_succ
def uM: ∀{H:List Hd},(∀(i:Nat) (x:Hd),H[i]? =some x->x.M=[])->dR H=0
 |[],_=>rfl
 |h::H,a=>by
  have b:=a 0 h rfl
  have:=uM (H:=H) (fun i x c=>a (i+1) x y_)
  simp only[dR,List.map_cons,List.sum_cons,b,List.length_nil] at this|-
  omega
def xH.Ql {b w:World} {n c q:Nat} {v:Value} {H:List Hd} (h:xH b w n (mY c n q) v H) (o:H.length=c+1) (s:1<=n/\n<=1024) (r:1<=c/\c<=64) (p:1<=q/\q<=256):db w (b.heap.size+2) (b.heap.size+2) (b.heap.size+1) b.heap.size n c q v 0 H:=by
 have f: ∀(i:Nat) (x:Hd),H[i]? =some x->x.M=[]:=fun i x a=>(h.fresh i x a).1
 have m:=Dc.bN h.row
 have hw:aV n H 0=fun _=>none:=funext fun g=>iB n g H 0 (fun i x a _=>by rw[f i x a];rfl)
 refine⟨⟨s,r,p,h.blk,h.row,o,h.sets,?_,fun i x a k d=>⟨h.sep i x a k d,?_,?_⟩,⟨z_,fun e=> ?_,fun e=> ?_⟩⟩,fun i j x y g a t l u=> ?_,fun i x a=>by rw[(h.fresh i x a).2];omega⟩
 ·rw[hw,uM f];exact h.map
 ·have:=h.sets.low i x a k d;omega
 ·have:=h.sets.low i x a k d;omega
 ·grind
 ·grind
 ·rw[f i x a] at l;cases l
section
variable {w w' wa wb:World} {b lo d c n e q T g f:Nat} {v:Value} {H:List Hd}
def DZ (h:db w b lo d c n e q v T H) {i:Nat} {x:Hd} (m:H[i]? =some x) {l:Nat} (u:(keyOf x.M l).isSome=true) (hw:aV n H 0 (l:Int)=some (i:Int)) {t:Nat} (C:t<=x.turn+1)
  (B:(x.to t (cut l x.M)).is wa n (mY e n q i)) (F:Fr x.own w wa) (o:wa.grownBy wb (some c)) (s:bU wb c (dJ (aV n H 0) (l:Int) none) (if (aV n H 0 (l:Int)).isSome then dR H-1 else dR H)):
  db wb b lo d c n e q v (T+1) (H.set i (x.to t (cut l x.M)))/\Fr (fun k=>k=c\/x.own k) w wb:=by
 obtain⟨A,z⟩:=rM (n:=n) (y:=x.to t (cut l x.M)) h.un m rfl u
 refine h.jV m C F B ⟨o.os,o.tape,o.output,o.size,fun j E D=>o.block j E (fun a=>D (Option.some.inj a))⟩ A ?_
 rw[z]
 have G:=iX (y:=x.to t (cut l x.M)) m
 obtain⟨k,r⟩:=Option.isSome_iff_exists.1 u
 have I:=my (dM.nd (h.p.sets.it i x m)) ((fI (dM.nd (h.p.sets.it i x m))).1 r)
 have a:dR (H.set i (x.to t (cut l x.M)))=dR H-1:=by
  have:(x.to t (cut l x.M)).M.length=(cut l x.M).length:=rfl
  omega
 rw[a]
 rw[hw] at s
 exact s
def xR (h:db w b lo d c n e q v T H) (r:Nat) (hi:r<n) {i:Nat} {x:Hd} (z:H[i]? =some x) (O:(keyOf x.M r).isSome=true):
  aB 160 #[ak d,ab r] w fun j w'=>j= .returned (ab 0)/\ ∃t,db w' b lo d c n e q v (T+1) (H.set i (x.to t (cut r x.M)))/\Fr (fun k=>k=c\/x.own k) w w':=by
 have U:=h.p.n1
 have hw:=oL n H h.un i x z r hi O
 have B:=lH (i:=r) z_
 have L:=aa (Bd h.p (r:Int) B i x z hw)
 have y:=aa (fun t A wa wb a o m l=>DZ (wa:=wa) (wb:=wb) (t:=t) h z O hw A a o m l)
 have E:DM n x.M (r:Int)=0:=by unfold DM;grind
 have D:Hz n x.M (r:Int)=cut r x.M:=by unfold Hz;grind
 have s:=h.p.sep i x z
 have N:Hid (aB 175 #[ak x.sb,ab r] w fun j w'=>j= .returned (ab 0)/\(∃t,t<=x.turn+1/\(x.to t (cut r x.M)).is w' n (mY e n q i))/\Fr x.own w w'/\w'.cell? (af d 1)=some (.map (some c))/\bU w' c (aV n H 0) (dR H)):=by
  refine(uI (h.p.sets.it i x z) (r:Int)).mono ?_
  rintro j w1 ⟨rfl,⟨t,A,S⟩,V⟩
  rw[D] at S
  have u:Fr x.own w w1:=V
  exact⟨by rw[E],⟨t,A,S⟩,u,(u.cell (a:=(af d 1)) h.p.LR (fun q=>(s d q).2.1 rfl)).trans h.p.c1,h.p.map.block (u.block _ h.p.map.lt (fun q=>(s c q).2.2 rfl))⟩
 clear h hw z O E D s
 refine ge ?_
 go_wp2_with (first
  |(go_at_call 134;refine cS L.out ?_)
  |(go_at_call 175;refine(N.out).mono ?_;rintro j w2 ⟨rfl,⟨t,A,C⟩,J,W,G⟩;have P:=aa C;have R:=aa J;have Q:=aa G;have X:=aa A;clear C J G A)
  |(at_delete;refine dw rfl _ _ rfl (by exact Q.out) (r:Int) B rfl rfl ?_;intro Z F I;have Y:=aa (y.out t X.out _ _ P.out R.out (by exact I) F);clear F I))
 go_ret
 exact⟨rfl,t,Y.out⟩
end
section
variable {w w' o m:World} {b lo j c n f q T g i:Nat} {v:Value} {H:List Hd}
def db.frame {S:Nat->Prop} (h:db w b lo j c n f q v T H) (d:Fr S w w') (a: ∀k,mw j c v H k-> ¬S k):db w' b lo j c n f q v T H:=⟨h.p.frame d a,h.un,h.tn⟩
def lq (W:World) (B:Nat) (k:Ke.K):World:=((W.setCell (ao B) (.bool k.e)).setCell (af B 1) (aj k.d)).setCell (af B 2) (aA k.l)
def o8 (W:World) (B:Nat) (k:Ke.K):Fr (fun d=>d=B) W (lq W B k):=(((Fr.refl (fun d=>d=B) W).setCell (a:=(ao B)) rfl _).setCell (a:=(af B 1)) rfl _).setCell (a:=(af B 2)) rfl _
def mC {W:World} {B:Nat} {k0 k1:Ke.K} (h:W.heap[B]? =some (.cells (bn k0) 120 (0,0))):(lq W B k1).heap[B]? =some (.cells (bn k1) 120 (0,0)):=
 Go.Joins.block_setCell (Go.Joins.block_setCell (Go.Joins.block_setCell h _) _) _
def zK {d:Nat} {x:Hd} (p:H[d]? =some x) (t:Nat) (M:List En) (k:Nat) (h:mw j c v (H.set d (x.to t M)) k):mw j c v H k:=by
 have l:d<H.length:=(i6.1 p).1
 rcases h with e|e|e|⟨a,z,hz,s⟩
 ·exact .inl e
 ·exact .inr (.inl e)
 ·exact .inr (.inr (.inl e))
 ·rcases fp l hz with ⟨rfl,rfl⟩|⟨_,r⟩
  ·exact .inr (.inr (.inr ⟨a,x,p,s⟩))
  ·exact .inr (.inr (.inr ⟨a,z,r,s⟩))
def EG (h:db w b lo j c n f q (.slice (some (ao g)) (f+1) i) T H) (p d:Nat) (hp:p<f) (hd:d<18446744073709551616) {r:Nat} {x:Hd} {z:En} {M':List En} (hb:lI H (gy f p d)=some r) (E:H[r]? =some x) (hM:x.M=z::M'):
  aB 122 #[ak j,ab p,aj d] w fun e w'=>e=aS #[ab z.1,.agg (bn z.2),ab r,.bool true]/\ ∃t,db w' b lo j c n f q (.slice (some (ao g)) (f+1) i) (T+1) (H.set r (x.to t M'))/\Fr (fun k=>k=c\/x.own k) w w':=by
 have a0:=h.p.blocks
 have D:aC w (w.alloc (.cells #[.bool false,aj 0,aA 0] 120)):=bq
 have F:cut z.1 x.M=M':=by rw[hM];exact qB (by rw[<-hM];exact dM.nd (h.p.sets.it r x E))
 have Y:(keyOf x.M z.1).isSome=true:=by rw[jY];grind
 have X:z.1<n:=by
  obtain⟨R,L,hS,hI⟩:=jy (h.p.sets.it r x E)
  exact hI.nN hS z y_
 have y:=aa (uJ (h.p.below D) p d hp hd)
 rw[hb] at y
 have e1:bI H (some r)=(z.1:Int):=by show KE (MM H r)=_;rw[eR E,hM];rfl
 have e2:bK H (some r)=z.2:=by show oK (MM H r)=_;rw[eR E,hM];rfl
 have e3:bA (some r)=(r:Int):=rfl
 rw[e1,e2,e3] at y
 simp only[Option.isSome_some] at y
 have HK:Hid (∀W,Below (w.alloc (.cells #[.bool false,aj 0,aA 0] 120)).heap.size (w.alloc (.cells #[.bool false,aj 0,aA 0] 120)) W->
   (∀a,W.frozen? (af w.heap.size a)=false)/\W.cell? (ao w.heap.size)=some (.bool false)/\W.cell? (af w.heap.size 1)=some (aj 0)/\W.cell? (af w.heap.size 2)=some (aA 0)/\(lq W w.heap.size z.2).heap[w.heap.size]? =some (.cells (bn z.2) 120 (0,0))/\
   db (lq W w.heap.size z.2) b lo j c n f q (.slice (some (ao g)) (f+1) i) T H/\aC w (lq W w.heap.size z.2)):=fun W hW=>by
  have u:W.heap[w.heap.size]? =some (.cells #[.bool false,aj 0,aA 0] 120 (0,0)):=(hW.block _ q_).trans (yW0 w _)
  have J:aC w W:=D.trans (hW.mono D.size)
  have Z:=o8 W w.heap.size z.2
  refine⟨fun a=>(aG u a).2,(aG u 0).1,(aG u 1).1,(aG u 2).1,mC (k0:=⟨false,0,0⟩) u,(h.below J).frame Z (fun k I e=> ?_),J.trans (Z.below J.size (fun k e=>by omega))⟩
  grind
 have a5:Hid (∀W,db W b lo j c n f q (.slice (some (ao g)) (f+1) i) T H->aB 160 #[ak j,ab z.1] W fun e w'=>e= .returned (ab 0)/\ ∃t,db w' b lo j c n f q (.slice (some (ao g)) (f+1) i) (T+1) (H.set r (x.to t M'))/\Fr (fun k=>k=c\/x.own k) W w'):=fun W hW=>by
  have:=xR hW z.1 X E Y
  rw[F] at this
  exact this
 have a6:Hid (∀t k,mw j c (.slice (some (ao g)) (f+1) i) (H.set r (x.to t M')) k->k<w.heap.size):=fun t k I=>a0 k (zK E t M' k I)
 have b3:Hid (¬(w.heap.size=c\/x.own w.heap.size)):=by
  rintro(e|e)
  ·have:=h.p.map.lt;omega
  ·have:=(h.p.sets.it r x E).blocks _ e;omega
 clear h a0 D F Y X hb e1 e2 e3 hM E
 refine ge ?_
 go_wp2_with (first
  |(go_at_call 118;refine(y.out).mono ?_;rintro e w1 ⟨rfl,a1⟩;obtain⟨f1,k0,k1,k2,u,a3,a4⟩:=HK.out w1 a1;have b8:=f1 0;have b7:=f1 1;have b6:=f1 2;have G:=aa u;have b2:=aa a3;have b5:=aa a4;clear f1 u a3 a4 a1)
  |(go_at_call 160;refine(a5.out _ (by exact b2.out)).mono ?_;rintro e w2 ⟨rfl,t,a2,N⟩;have s:=aa ((N.block _ (zW0.1 G.out).1 b3.out).trans G.out);have b1:=aa a2;have b4:=aa N;have V:=(aG s.out 0).1;have U:=(aG s.out 1).1;have Q:=(aG s.out 2).1;have b0:=(aG s.out 0).2;have a9:=(aG s.out 1).2;have a8:=(aG s.out 2).2;clear a2 N))
 have C:=aa (mC (k1:=z.2) s.out)
 simp only[List.getElem?_toArray,List.getElem?_cons_zero,List.getElem?_cons_succ] at V U Q
 refine wp_region_noPanic ?_
 refine wp_region_held_drew (S:=(fun w'=>w'.cell? (ao w.heap.size)=some (.bool z.2.e)/\w'.cell? (af w.heap.size 1)=some (aj z.2.d)/\w'.cell? (af w.heap.size 2)=some (aA z.2.l))) (by rfl) ?_ (fun hHeld=> ?_)
 ·simp_all
 refine st ?_
 repeat' first
  |refine dn ?_
  |refine tk ?_
  |refine rd ?_
  |exact oA
  |refine oE ?_
  |refine oC ?_ ?_
  | (refine dU _ (fun K hK=> ?_)
     go_simp
     refine hK.out _ _ ?_ (fun hHeld=> ?_)
     ·exact⟨(aG (dx C.out) 0).1,(aG (dx C.out) 1).1,(aG (dx C.out) 2).1⟩
     clear hK K
     try simp only[cV])
 refine⟨?_⟩
 simp only[NoPanic]
 have A:=aa (o8 w2 w.heap.size z.2)
 have O:=aa (dx C.out)
 have B:Hid (Fr (fun a=>a=w.heap.size) w2 (lq w2 w.heap.size z.2).drew):=⟨A.out.os,A.out.tape,A.out.output,A.out.size,A.out.block⟩
 clear C A V U Q b0 a9 a8 hHeld
 have a7:(((w2.setCell (ao w.heap.size) (.bool z.2.e)).setCell (af w.heap.size 1) (aj z.2.d)).setCell (af w.heap.size 2) (aA z.2.l)).drew=(lq w2 w.heap.size z.2).drew:=rfl
 rw[a7]
 generalize (lq w2 w.heap.size z.2).drew=W4 at*
 have g0:=(aG O.out 0).1
 have g1:=(aG O.out 1).1
 have g2:=(aG O.out 2).1
 simp at g0 g1 g2
 go_wp2
 refine bodyPost_ret (v:= .tuple #[ab z.1,.agg (bn z.2),ab r,.bool true]) ?_ rfl ?_
 ·simp[results,Tryz.f122,go_sem,g0,g1,g2]
 refine⟨rfl,t,b1.out.frame B.out (fun k I e=> ?_),?_⟩
 ·have:=a6.out t k I;omega
 ·have P:Fr (fun k=>k=c\/x.own k) w w2:=(Fr.aF b5.out).trans b4.out
  exact⟨B.out.os.trans P.os,B.out.tape.trans P.tape,B.out.output.trans P.output,zY0 P.size B.out.size,fun k I hn=>(B.out.block k (i8 I P.size) (fun e=>by omega)).trans (P.block k I hn)⟩
end
end Go.Proofs.YtnmhcgpnhlhcgaaGreatDoor
namespace Go.Proofs.YtnmhcgpnhlhcgaaGreatDoor
open Go.RowKit Go.Shelf
attribute [local go_sem] Oper.semAt_some
def Dq (w:World) (a:Option Addr) (p d:Int) (h: ∀W,aC w W->aB 147 #[.pointer a,ab p] W fun e w'=>e= .returned (.bool false)/\w'=W):
  aB 118 #[.pointer a,ab p,aj d] w fun e w'=>e=aS #[ab 0,.agg #[.bool false,aj 0,aA 0],ab 0,.bool false]/\aC w w':=by
 refine(callsIn_wide (n:=6)).1 ?_
 have f:=aa (fun W i=>(callsIn_wide (n:=5)).2 (h W i))
 clear h
 refine callsIn_of_wp_marks Tryz.func118 rfl trivial ?_ rfl
 simp only[Tryz.ntmps118,j_,Nat.reduceAdd,Nat.reduceSub]
 have c:aC w (((((w.alloc (.cells #[.pointer a] 98)).alloc (.cells #[ab 0] 3)).alloc (.cells #[.bool false,aj 0,aA 0] 120)).alloc (.cells #[ab 0] 3)).alloc (.cells #[.bool false] 4)):=(((((i4 _ w).alloc aT _).alloc q_ _).alloc (by simp;omega) _).alloc (by simp;omega) _).alloc (by simp;omega) _
 have g:=aa c
 clear c
 gi_wp2
 refine wpIn_wide.2 (wp_scope_straight ((wpIn_wide (n:=6)).1 ?_))
 gi_wp2_with (refine⟨trivial,?_⟩;gi_at_call 147;refine(f.out _ g.out).mono ?_;rintro e j ⟨rfl,b⟩;replace b:=b.symm;subst b)
 try simp only[Exit.noGoto]
 refine⟨_,?_,rfl,g.out⟩
 simp[results,Tryz.f118,go_sem]
end Go.Proofs.YtnmhcgpnhlhcgaaGreatDoor
namespace Go.Proofs.YtnmhcgpnhlhcgaaGreatDoor
open Go.RowKit Go.Lib
attribute [local go_sem ↓] Go.wp_at_zero Go.wp_at_succ
def Ms (H:List Hd):List (List En):=H.map (·.M)
def xP (H:List Hd):(Ms H).length=H.length:=by simp[Ms]
theorem sA {H:List Hd} {i:Nat} {x:Hd} (h:H[i]? =some x):(Ms H)[i]? =some x.M:=by simp[Ms,h]
def Nr (H:List Hd) (i:Nat) (y:Hd):Ms (H.set i y)=(Ms H).set i y.M:=by simp[Ms,List.map_set]
section
variable {H X:List Hd}
def N0 (e:Ms H=Ms X) {i:Nat} {x y:Hd} (b:H[i]? =some x) (a:X[i]? =some y):x.M=y.M:=by
 have d:=sA b
 have c:=sA a
 grind
def KM (e:Ms H=Ms X) {i:Nat} {x:Hd} (a:H[i]? =some x): ∃y,X[i]? =some y/\y.M=x.M:=by
 have b:=sA a
 grind[Ms]
def K8 (H:List Hd) (x:Nat):MM H x=((Ms H)[x]?).getD []:=by
 unfold MM Ms
 grind
def qI (e:Ms H=Ms X):MM H=MM X:=funext fun x=>by rw[K8,K8,e]
def G2 (e:Ms H=Ms X):dL H=dL X:=by
 funext b x
 unfold dL
 rw[qI e]
def MQ (e:Ms H=Ms X) (l:List Nat):lI H l=lI X l:=by unfold lI;rw[G2 e]
theorem KP (e:Ms H=Ms X) (o:Option Nat):bI H o=bI X o:=by cases o<;>simp[bI,qI e]
theorem K5 (e:Ms H=Ms X) (o:Option Nat):bK H o=bK X o:=by cases o<;>simp[bK,qI e]
def LY (e:Ms H=Ms X):H.length=X.length:=by rw[<-xP,<-xP,e]
def nO (e:Ms H=Ms X) (n:Nat) (k id:Int):aV n H k id=aV n X k id:=
 ff n id H X k (LY e) (fun i x c b a _=>by rw[N0 e b a])
theorem Og (e:Ms H=Ms X) (h:Un H):Un X:=fun i j x y f k g m l=>by
 obtain⟨d,b,o⟩:=KM e.symm k
 obtain⟨c,a,n⟩:=KM e.symm g
 exact h i j d c f b a y_ y_
end
def nA (a n q:Nat) (H:List Hd) (p:Nat):Nat:=if (MM H p).length<min q n then p else a
def mE (b n:Nat) (H:List Hd) (p a:Int) (k:Ke.K):Int:=if (p<0\/(b:Int)<=p)\/nU n a k then 2 else if (aV n H 0 a).isSome then 5 else 0
def iy (a n q:Nat) (H:List Hd) (p b:Int) (k:Ke.K):List (List En):=if mE a n H p b k=0 then(Ms H).set (nA a n q H p.toNat) (put (b.toNat,k) (MM H (nA a n q H p.toNat))) else Ms H
def jt (n:Nat) (H:List Hd) (a:Int) (k:Ke.K):Int:=if nU n a k then 2 else if (aV n H 0 a).isSome then 0 else 6
def K3 (n:Nat) (H:List Hd) (a:Int):Nat:=((aV n H 0 a).getD 0).toNat
def gU (n:Nat) (H:List Hd) (a:Int) (k:Ke.K):List (List En):=if jt n H a k=0 then(Ms H).set (K3 n H a) (fk n (MM H (K3 n H a)) a k) else Ms H
def bb (a:Nat) (H:List Hd) (p d:Int):Option Nat:=if 0<=p/\p<(a:Int) then lI H (gy a p.toNat d.toNat) else none
def iw (a:Nat) (H:List Hd) (p d:Int):List (List En):=match bb a H p d with
 |none=>Ms H
 |some c=>(Ms H).set c (MM H c).tail
section
variable {w w' wa wb:World} {a lo b c n np q T g d:Nat} {v:Value} {H:List Hd}
theorem db.more (h:db w a lo b c n np q v T H) {T':Nat} (f:T<=T'):db w a lo b c n np q v T' H:=⟨h.p,h.un,fun i x e=>zY0 (h.tn i x e) f⟩
def Leaves (w w':World) (a lo b c n np q:Nat) (v:Value) (T:Nat) (H:List Hd) (G:List (List En)):Prop:=
 (∃e,db w' a lo b c n np q v (T+1) e/\Ms e=G/\ ∀k,mw b c v e k↔mw b c v H k)/\Fr (mw b c v H) w w'
theorem Leaves.same (h:db w a lo b c n np q v T H) (e:aC w w'):Leaves w w' a lo b c n np q v T H (Ms H):=
 ⟨⟨H,(h.below e).more z_,rfl,fun _=>Iff.rfl⟩,Fr.aF e⟩
def Fx {i:Nat} {x:Hd} (f:H[i]? =some x) (t:Nat) (M:List En) (k:Nat):mw b c v (H.set i (x.to t M)) k↔mw b c v H k:=by
 refine⟨zK f t M k,?_⟩
 have h:=(i6.1 f).1
 rintro(e|e|e|⟨j,z,hz,hk⟩)
 ·exact .inl e
 ·exact .inr (.inl e)
 ·exact .inr (.inr (.inl e))
 ·by_cases l:j=i
  ·subst l
   rw[f] at hz
   injection hz with hz
   subst hz
   exact .inr (.inr (.inr ⟨j,x.to t M,List.getElem?_set_self h,hk⟩))
  ·exact .inr (.inr (.inr ⟨j,z,y_,hk⟩))
theorem Leaves.put (h:db w a lo b c n np q v T H) {i:Nat} {x:Hd} (f:H[i]? =some x) {t:Nat} {M:List En} (j:db w' a lo b c n np q v (T+1) (H.set i (x.to t M))) (l:Fr (fun k=>k=c\/x.own k) w w') {G:List (List En)} (m:G=(Ms H).set i M):Leaves w w' a lo b c n np q v T H G:=by
 refine⟨⟨_,j,?_,Fx f t M⟩,l.wide ?_⟩
 ·rw[Nr,m];rfl
 ·rintro k _ (e|e)
  ·exact .inr (.inl e)
  ·exact .inr (.inr (.inr ⟨i,x,f,e⟩))
def Ip (h:db w a lo b c n np q v T H) (p i:Int) (k:Ke.K) (l:(p<0\/(np:Int)<=p)\/nU n i k):
  vQ 96 #[ak b,ab p,ab i,.agg (bn k)] w (ab 2):=by
 have G:=aa (me h k)
 have o:Below (w.heap.size+1) (w.alloc (.cells (bn k) 120)) (w.alloc (.cells (bn k) 120)):=cj
 obtain⟨j,_,A,s⟩:=me h k _ o
 have r:=aa s
 have f:=aa (tJ j.p p)
 have y:=aa (fun W=>Ke.cf W k)
 have E:=j.p.c2
 have t:decide (0<=p/\p<(np:Int))=false\/(decide (0<=p/\p<(np:Int))=true/\i<0)\/(decide (0<=p/\p<(np:Int))=true/\ ¬i<0/\(n:Int)<=i)\/(decide (0<=p/\p<(np:Int))=true/\ ¬i<0/\ ¬(n:Int)<=i/\Ke.aN k=false):=by
  by_cases z:0<=p/\p<(np:Int)
  ·right
   rw[xZ0 z]
   unfold nU at l
   grind
  grind
 clear h l j o
 generalize decide (0<=p/\p<(np:Int))=F at*
 rcases t with rfl|⟨rfl,x⟩|⟨rfl,x,C⟩|⟨rfl,x,C,B⟩
 ·refine ge ?_
  go_wp2_with (go_at_call 147;refine cS f.out ?_)
  go_ret
  simp_all
 ·refine ge ?_
  go_wp2_with (go_at_call 147;refine cS f.out ?_)
  go_ret
  simp_all
 ·refine ge ?_
  go_wp2_with (go_at_call 147;refine cS f.out ?_)
  go_ret
  simp_all
 ·rw[B] at y
  refine ge ?_
  go_wp2_with (first
   |(go_at_call 147;refine cS f.out ?_)
   |(go_at_call 129;refine(y.out _).mono ?_;rintro e D ⟨rfl,m⟩;have u:=aa (r.out.trans (m.mono r.out.size));clear m))
  go_ret
  exact⟨rfl,u.out⟩
def xF (h:db w a lo b c n np q v T H) (p:Nat) (D:p<np) (id:Nat) (hi:id<n) (k:Ke.K) (C:Ke.aN k=true) (hw:(aV n H 0 (id:Int)).isSome=true):
  vQ 96 #[ak b,ab p,ab id,.agg (bn k)] w (ab 5):=by
 have E:=h.p.n1
 have G:=aa (me h k)
 have l:Below (w.heap.size+1) (w.alloc (.cells (bn k) 120)) (w.alloc (.cells (bn k) 120)):=cj
 have J:=aa l
 obtain⟨j,_,u,B⟩:=me h k _ l
 have s:=aa (AB j.p p D)
 have I:=aa (fun W=>by have:=Ke.cf W k;rw[C] at this;exact this)
 have Q:=j.p.c2
 have t:=lH (i:=id) z_
 have O: ¬(id:Int)<0:=z_
 have N: ¬(n:Int)<=id:=z_
 have M:(id:Int)<n:=z_
 have x:=aa hw
 clear h j l hw
 refine ge ?_
 go_wp2_with (first
  |(go_at_call 147;refine cS s.out ?_)
  |(go_at_call 129;refine(I.out _).mono ?_;rintro e L ⟨rfl,r⟩;have z:=aa (J.out.trans (r.mono u));obtain⟨f,_,A,o⟩:=G.out _ z.out;have y:=aa o;have m:=f.p.map.look id t;rw[x.out] at m;generalize (aV n H 0 (id:Int)).getD 0=P at m;have F:=f.p.c1;clear f r o))
 go_ret
 exact⟨rfl,y.out⟩
def Gv (h:db w a lo b c n np q v T H) (F:T<=1000000000) (p l:Int) (k:Ke.K) (E:k.ok):
  aB 96 #[ak b,ab p,ab l,.agg (bn k)] w fun e w'=>e= .returned (ab (mE np n H p l k))/\Leaves w w' a lo b c n np q v T H (iy np n q H p l k):=by
 unfold iy mE
 by_cases j:(p<0\/(np:Int)<=p)\/nU n l k
 ·rw[if_pos j,if_neg x_]
  refine(Ip h p l k j).mono ?_
  rintro e w' ⟨rfl,r⟩
  exact⟨rfl,Leaves.same h r⟩
 ·rw[if_neg j]
  have A: ¬nU n l k:=fun q=>j (.inr q)
  rcases nj n [] l k with r|⟨i,rfl,hi,t,_⟩
  ·exact absurd r A
  obtain⟨p,rfl⟩:=yY0 (show 0<=p by omega)
  have z:p<np:=z_
  cases hw:aV n H 0 (i:Int) with
  |some f=>
   rw[if_pos mK,if_neg x_]
   refine(xF h p z i hi k t y_).mono ?_
   rintro e w' ⟨rfl,r⟩
   exact⟨rfl,Leaves.same h r⟩
  |none=>
   rw[if_neg q_,if_pos rfl]
   obtain⟨g,d,rfl,_⟩:=h.p.rows
   obtain⟨x,m⟩:=h.p.at (i:=p) z_
   obtain⟨y,s⟩:=h.p.at (i:=np) z_
   have o:=dM.fit (h.p.sets.it p x m)
   have B:mY np n q p=min q n:=by unfold mY;grind
   rw[B] at o
   have G:(p:Int).toNat=p:=rfl
   rw[G]
   unfold nA
   rw[eR m]
   by_cases D:x.M.length<min q n
   ·rw[if_pos D,eR m]
    refine(CD h F p z m i hi k t E hw z_).mono ?_
    rintro e w' ⟨rfl,u,C⟩
    exact⟨rfl,Leaves.put h m u C rfl⟩
   ·rw[if_neg D,eR s]
    refine(De h F p z m s i hi k t E hw z_).mono ?_
    rintro e w' ⟨rfl,u,C⟩
    exact⟨rfl,Leaves.put h s u C rfl⟩
end
section
variable {w w' o m:World} {b lo e f n c q T g j:Nat} {v:Value} {H:List Hd}
def qa (h:db w b lo e f n c q v T H) (hT:T<=1000000000) (s:Int) (k:Ke.K) (hk:k.ok) {i:Nat} {x:Hd} (F:H[i]? =some x)
  (hs: ∀W,jd W b lo e f n c q v H->vQ 134 #[ak e,ab s] W (ak x.sb)):
  aB 82 #[ak e,ab s,.agg (bn k)] w fun r w'=>r= .returned (ab (jA n x.M s k))/\(∃t,t<=x.turn+1/\(x.to t (fk n x.M s k)).is w' n (mY c n q i))/\Fr x.own w w':=by
 have HX:=aa (me h k)
 have y:Below (w.heap.size+1) (w.alloc (.cells (bn k) 120)) (w.alloc (.cells (bn k) 120)):=cj
 have HA:=aa y
 obtain⟨N,⟨U,S,R⟩,a1,I⟩:=me h k _ y
 have D:Hid (∀W,Below (w.heap.size+1) (w.alloc (.cells (bn k) 120)) W->aB 134 #[ak e,ab s] W fun r w'=>r= .returned (ak x.sb)/\Below (w.heap.size+1) (w.alloc (.cells (bn k) 120)) w'):=fun W J=>by
  obtain⟨V,_,hz,_⟩:=me h k W J
  grind[db.p,Calls.mono,RowKit.Below.trans,RowKit.Below.mono]
 have E:Hid (∀W,Below (w.heap.size+1) (w.alloc (.cells (bn k) 120)) W->aB 135 #[ak x.sb,ab s,.agg (bn k)] W fun r w'=>r= .returned (ab (jA n x.M s k))/\(w'.cell? (ao w.heap.size)=some (.bool k.e)/\w'.cell? (af w.heap.size 1)=some (aj k.d)/\w'.cell? (af w.heap.size 2)=some (aA k.l))/\(∃t,t<=x.turn+1/\(x.to t (fk n x.M s k)).is w' n (mY c n q i))/\Fr x.own w w'):=fun W J=>by
  obtain⟨V,⟨U,S,R⟩,hz,hb⟩:=me h k W J
  have a2:=(h.p.sets.it i x F).blocks
  have G: ¬x.own w.heap.size:=fun q=>by grind
  refine(wU (V.p.sets.it i x F) (by have:=h.tn i x F;omega) s k hk).mono ?_
  rintro r w1 ⟨rfl,ht,hf⟩
  have u:Fr x.own W w1:=hf
  exact⟨rfl,⟨(u.cell (a:=(ao w.heap.size)) y_ G).trans U,(u.cell (a:=(af w.heap.size 1)) y_ G).trans S,(u.cell (a:=(af w.heap.size 2)) y_ G).trans R⟩,ht,(Fr.aF hb).trans u⟩
 generalize jA n x.M s k=cc at*
 clear h N y hs F I
 refine ge ?_
 go_wp2
 go_region_held3 (fun w'=>w'.cell? (ao w.heap.size)=some (.bool k.e)/\w'.cell? (af w.heap.size 1)=some (aj k.d)/\w'.cell? (af w.heap.size 2)=some (aA k.l))
  (first
   |exact S3.out
   |exact y_
   |go_keep)
  (first
   |(go_at_call 134;refine(D.out _ (by exact aK HA.out rfl rfl rfl rfl)).mono ?_;rintro r w1 ⟨rfl,C⟩;have Q:=aa C;obtain⟨L,⟨Z,Y,X⟩,a0,_⟩:=HX.out _ Q.out;clear L C)
   |(go_at_call 135;refine(E.out _ (by grind[RowKit.Hid.out])).mono ?_;rintro r w3 ⟨rfl,A,z,B⟩;have S3:=aa A;have O:=aa z;have P:=aa B;clear A z B))
 go_wp2
 go_ret
 exact⟨rfl,O.out,P.out⟩
def vu (n:Nat) (M:List En) (d:Int) (k:Ke.K) (a:Nat):(keyOf (fk n M d k) a).isSome=(keyOf M a).isSome:=by
 unfold fk
 split
 ·rename_i h
  split
  ·rfl
  ·rw[Bool.eq_iff_iff,ma,oZ]
   grind[jA]
 ·rfl
def uW (n:Nat) {M:List En} (h:(M.map (·.1)).Nodup) (i:Int) (k:Ke.K):(fk n M i k).length=M.length:=by
 unfold fk
 split
 ·rename_i a
  split
  ·rfl
  ·unfold jA at a
   split at a
   ·cases a
   ·split at a
    ·rename_i l
     obtain⟨p,d⟩:=Option.isSome_iff_exists.1 l
     have:=my h ((fI h).1 d)
     rw[mT]
     omega
    omega
 ·rfl
theorem Leaves.kept (h:db w b lo e f n c q v T H) {i:Nat} {x:Hd} (r:H[i]? =some x) {M:List En} (hi: ∀d,(keyOf M d).isSome=(keyOf x.M d).isSome) (E:M.length=x.M.length) (s: ∃t,t<=x.turn+1/\(x.to t M).is w' n (mY c n q i)) (z:Fr x.own w w'):Leaves w w' b lo e f n c q v T H ((Ms H).set i M):=by
 obtain⟨t,s,C⟩:=s
 obtain⟨B,A⟩:=yY (n:=n) (y:=x.to t M) h.un r hi
 have D:=iX (y:=x.to t M) r
 have k:dR (H.set i (x.to t M))=dR H:=by
  have:(x.to t M).M.length=M.length:=rfl
  omega
 have u:=h.p.sep i x r
 obtain⟨a,l⟩:=h.jV r s z C (Fr.refl _ _) B (by
  rw[A,k]
  exact h.p.map.block (z.block _ h.p.map.lt y_))
 exact Leaves.put h r a l rfl
theorem aU {G:List (List En)} {i:Nat} {M:List En} (h:G[i]? =some M):G.set i M=G:=by
 apply List.ext_getElem?
 grind
def F5 (h:db w b lo e f n c q v T H) {d a:Int} (hw:aV n H 0 d=some a): ∃(i:Nat) (x:Hd),H[i]? =some x/\a=(i:Int)/\K3 n H d=i/\MM H i=x.M/\0<=d/\d<(n:Int)/\(keyOf x.M d.toNat).isSome=true:=by
 grind[lG,eR,K3]
def wA (h:db w b lo e f n c q v T H) (F:T<=1000000000) (r:Int) (t:(Lit.int .i64 r).wf=true) (k:Ke.K) (E:k.ok):
  aB 82 #[ak e,ab r,.agg (bn k)] w fun d w'=>d= .returned (ab (jt n H r k))/\Leaves w w' b lo e f n c q v T H (gU n H r k):=by
 have G:=h.p.n1
 cases hw:aV n H 0 r with
 |some l=>
  obtain⟨i,x,s,rfl,N,I,Q,P,O⟩:=F5 h hw
  have u:jt n H r k=jA n x.M r k:=by unfold jt jA;grind
  refine(qa h F r k E s (fun W C=>(Bd C r t i x s hw).mono (by grind[cj]))).mono ?_
  rintro d w' ⟨rfl,y,A⟩
  refine⟨by rw[u],?_⟩
  have D:=Leaves.kept h s (vu n x.M r k) (uW n (dM.nd (h.p.sets.it i x s)) r k) y A
  have d:gU n H r k=(Ms H).set i (fk n x.M r k):=by
   unfold gU
   rw[N,I,u]
   split
   ·rfl
   ·rename_i q
    have:fk n x.M r k=x.M:=by unfold fk;grind
    rw[this,aU (sA s)]
  rw[d]
  exact D
 |none=>
  obtain⟨x,s⟩:=h.p.at (i:=c) z_
  have J: ∀a:Nat,r=(a:Int)->a<n->keyOf x.M a=none:=fun a d L=>eT y_ L s
  have u:jt n H r k=jA n x.M r k:=by
   unfold jt jA
   rw[hw]
   by_cases B:nU n r k
   ·grind
   ·rw[if_neg B,if_neg B]
    unfold nU at B
    grind
  have z: ¬jt n H r k=0:=by
   unfold jt
   grind
  refine(qa h F r k E s (fun W C=>Kc C r t x s hw)).mono ?_
  rintro d w' ⟨rfl,y,A⟩
  refine⟨by rw[u],?_⟩
  have D:=Leaves.kept h s (vu n x.M r k) (uW n (dM.nd (h.p.sets.it c x s)) r k) y A
  have d:gU n H r k=(Ms H).set c (fk n x.M r k):=by
   unfold gU
   rw[if_neg z]
   have:fk n x.M r k=x.M:=by unfold fk;grind
   rw[this,aU (sA s)]
  rw[d]
  exact D
theorem rL (h:db w b lo e f n c q v T H) (p d:Int) (i:0<=d/\d<18446744073709551616):
  vQ 118 #[ak e,ab p,aj d] w (.tuple #[ab (bI H (bb c H p d)),.agg (bn (bK H (bb c H p d))),ab (bA (bb c H p d)),.bool (bb c H p d).isSome]):=by
 unfold bb
 by_cases a:0<=p/\p<(c:Int)
 ·rw[if_pos a]
  obtain⟨p,rfl⟩:=yY0 a.1
  obtain⟨d,rfl⟩:=yY0 i.1
  obtain⟨g,j,rfl,_⟩:=h.p.rows
  exact uJ h.p p d z_ z_
 ·rw[if_neg a]
  refine Dq w _ p d (fun W k=> ?_)
  have:=tJ (h.below k).p p
  grind
end
def G9 (w:World) (a:Option Addr) (p d:Int) (I: ∀W,aC w W->vQ 118 #[.pointer a,ab p,aj d] W (.tuple #[ab 0,.agg #[.bool false,aj 0,aA 0],ab 0,.bool false])):
  vQ 122 #[.pointer a,ab p,aj d] w (.tuple #[ab 0,.agg #[.bool false,aj 0,aA 0],ab 0,.bool false]):=by
 have i:aC w (w.alloc (.cells #[.bool false,aj 0,aA 0] 120)):=bq
 have k:=aa (I _ i)
 have Q:Hid (∀W,Below (w.alloc (.cells #[.bool false,aj 0,aA 0] 120)).heap.size (w.alloc (.cells #[.bool false,aj 0,aA 0] 120)) W->
   (∀j,W.frozen? (af w.heap.size j)=false)/\W.cell? (ao w.heap.size)=some (.bool false)/\W.cell? (af w.heap.size 1)=some (aj 0)/\W.cell? (af w.heap.size 2)=some (aA 0)/\(lq W w.heap.size ⟨false,0,0⟩).heap[w.heap.size]? =some (.cells #[.bool false,aj 0,aA 0] 120 (0,0))/\aC w (lq W w.heap.size ⟨false,0,0⟩)):=fun W J=>by
  have b:=(J.block _ q_).trans (yW0 w _)
  have r:=i.trans (J.mono i.size)
  have A:=o8 W w.heap.size ⟨false,0,0⟩
  exact⟨fun j=>(aG b j).2,(aG b 0).1,(aG b 1).1,(aG b 2).1,mC (k0:=⟨false,0,0⟩) b,r.trans (A.below r.size q_)⟩
 clear I i
 refine ge ?_
 go_wp2_with (go_at_call 118;refine(k.out).mono ?_;rintro e x ⟨rfl,s⟩;obtain⟨y,k0,k1,P,b,t⟩:=Q.out x s;have G:=y 0;have F:=y 1;have E:=y 2;have c:=aa b;have u:=aa t;clear y b t s)
 have h:(((x.setCell (ao w.heap.size) (.bool false)).setCell (af w.heap.size 1) (aj 0)).setCell (af w.heap.size 2) (aA 0))=lq x w.heap.size ⟨false,0,0⟩:=rfl
 rw[h]
 generalize lq x w.heap.size ⟨false,0,0⟩=m at*
 have q:=(aG c.out 0).1
 have o:=(aG c.out 1).1
 have n:=(aG c.out 2).1
 have D:=(aG c.out 0).2
 have C:=(aG c.out 1).2
 have B:=(aG c.out 2).2
 clear k0 k1 P G F E h
 have g:=aa (mC (k0:=⟨false,0,0⟩) (k1:=⟨false,0,0⟩) c.out)
 simp only[List.getElem?_toArray,List.getElem?_cons_zero,List.getElem?_cons_succ] at q o n
 refine wp_region_noPanic ?_
 refine wp_region_held_drew (S:=(fun z=>z.cell? (ao w.heap.size)=some (.bool false)/\z.cell? (af w.heap.size 1)=some (aj 0)/\z.cell? (af w.heap.size 2)=some (aA 0))) (by rfl) ?_ (fun hHeld=> ?_)
 ·simp_all
 refine st ?_
 repeat' first
  |refine dn ?_
  |refine tk ?_
  |refine rd ?_
  |exact oA
  |refine oE ?_
  |refine oC ?_ ?_
  | (refine dU _ (fun K L=> ?_)
     go_simp
     refine L.out _ _ ?_ (fun hHeld=> ?_)
     ·exact⟨(aG (dx g.out) 0).1,(aG (dx g.out) 1).1,(aG (dx g.out) 2).1⟩
     clear L K
     try simp only[cV])
 refine⟨?_⟩
 simp only[NoPanic]
 have f:=aa (o8 m w.heap.size ⟨false,0,0⟩)
 have l:=aa (dx g.out)
 have H:Hid (Fr (fun j=>j=w.heap.size) m (lq m w.heap.size ⟨false,0,0⟩).drew):=⟨f.out.os,f.out.tape,f.out.output,f.out.size,f.out.block⟩
 clear g f q o n D C B hHeld
 have h:(((m.setCell (ao w.heap.size) (.bool false)).setCell (af w.heap.size 1) (aj 0)).setCell (af w.heap.size 2) (aA 0)).drew=(lq m w.heap.size ⟨false,0,0⟩).drew:=rfl
 rw[h]
 generalize (lq m w.heap.size ⟨false,0,0⟩).drew=R at*
 have O:=(aG l.out 0).1
 have N:=(aG l.out 1).1
 have M:=(aG l.out 2).1
 simp at O N M
 go_wp2
 refine bodyPost_ret (v:= .tuple #[ab 0,.agg #[.bool false,aj 0,aA 0],ab 0,.bool false]) ?_ rfl ?_
 ·simp[results,Tryz.f122,go_sem,O,N,M]
 refine⟨rfl,u.out.trans (H.out.below u.out.size q_)⟩
section
variable {w c j i:World} {b lo e f n a q T g d:Nat} {v:Value} {H:List Hd}
def Fp (H:List Hd): ∀(l:List Nat) (m:Option Nat),(∀k,m=some k-> ∃y M,MM H k=y::M)-> ∀k,l.foldl (dL H) m=some k-> ∃y M,MM H k=y::M
 |[],m,h,k,p=>h k p
 |x::l,m,h,k,p=>by
  refine Fp H l (dL H m x) (fun r o=> ?_) k p
  unfold dL at o
  grind
def wS {p l:Int} {m:Nat} (h:bb a H p l=some m):(0<=p/\p<(a:Int))/\lI H (gy a p.toNat l.toNat)=some m/\ ∃x z M',H[m]? =some x/\x.M=z::M':=by
 unfold bb at h
 by_cases o:0<=p/\p<(a:Int)
 ·rw[if_pos o] at h
  obtain⟨y,M,k⟩:=Fp H _ none q_ m h
  grind[MM]
 grind
def Ce (h:db w b lo e f n a q v T H) (p l:Int) (y:0<=l/\l<18446744073709551616):
  aB 122 #[ak e,ab p,aj l] w fun k c=>k=aS #[ab (bI H (bb a H p l)),.agg (bn (bK H (bb a H p l))),ab (bA (bb a H p l)),.bool (bb a H p l).isSome]/\Leaves w c b lo e f n a q v T H (iw a H p l):=by
 unfold iw
 cases o:bb a H p l with
 |none=>
  refine(G9 w _ p l (fun W D=> ?_)).mono ?_
  ·have:=rL (h.below D) p l y
   rw[o] at this
   exact this
  ·rintro k c ⟨rfl,s⟩
   exact⟨rfl,Leaves.same h s⟩
 |some m=>
  obtain⟨B,s,x,z,I,r,u⟩:=wS o
  obtain⟨p,rfl⟩:=yY0 B.1
  obtain⟨l,rfl⟩:=yY0 y.1
  obtain⟨g,d,rfl,_⟩:=h.p.rows
  have G:bI H (some m)=(z.1:Int):=by show KE (MM H m)=_;rw[eR r,u];rfl
  have F:bK H (some m)=z.2:=by show oK (MM H m)=_;rw[eR r,u];rfl
  have E:bA (some m)=(m:Int):=rfl
  rw[G,F,E]
  refine(EG h p l z_ z_ s r u).mono ?_
  rintro k c ⟨rfl,t,A,C⟩
  refine⟨rfl,Leaves.put h r A C ?_⟩
  grind[eR]
end
def gh (G:List (List En)):List Hd:=G.map (fun M=>⟨0,0,0,0,0,0,M⟩)
theorem fy (G:List (List En)):Ms (gh G)=G:=by
 unfold Ms gh
 rw[List.map_map]
 exact List.map_id G
section
variable {H X:List Hd}
def wQ (e:Ms H=Ms X) (a n:Nat) (p b:Int) (k:Ke.K):mE a n H p b k=mE a n X p b k:=by unfold mE;rw[nO e]
def J7 (e:Ms H=Ms X) (a n q p:Nat):nA a n q H p=nA a n q X p:=by unfold nA;rw[qI e]
def E5 (e:Ms H=Ms X) (a n q:Nat) (p b:Int) (k:Ke.K):iy a n q H p b k=iy a n q X p b k:=by unfold iy;rw[wQ e,J7 e,qI e,e]
def vU (e:Ms H=Ms X) (n:Nat) (a:Int) (k:Ke.K):jt n H a k=jt n X a k:=by unfold jt;rw[nO e]
def My (e:Ms H=Ms X) (n:Nat) (id:Int):K3 n H id=K3 n X id:=by unfold K3;rw[nO e]
def GD (e:Ms H=Ms X) (n:Nat) (a:Int) (k:Ke.K):gU n H a k=gU n X a k:=by unfold gU;rw[vU e,My e,qI e,e]
theorem GZ (e:Ms H=Ms X) (a:Nat) (p d:Int):bb a H p d=bb a X p d:=by unfold bb;rw[MQ e]
def Kn (e:Ms H=Ms X) (a:Nat) (p d:Int):iw a H p d=iw a X p d:=by unfold iw;rw[GZ e,qI e,e]
end
def PQ (w:World) (O:Nat->Prop) (b n d q T:Nat) (G:List (List En)):Prop:=
 ∃(a lo c:Nat) (v:Value) (H:List Hd),db w a lo b c n d q v T H/\Ms H=G/\ ∀k,mw b c v H k↔O k
section
variable {w w':World} {O:Nat->Prop} {a n np q T:Nat} {G b:List (List En)}
def PQ.below (h:PQ w O a n np q T G) (e:aC w w'):PQ w' O a n np q T G:=by
 obtain⟨c,lo,d,v,H,f,i,g⟩:=h
 exact⟨c,lo,d,v,H,f.below e,i,g⟩
def PQ.frame {S:Nat->Prop} (h:PQ w O a n np q T G) (e:Fr S w w') (j: ∀k,O k-> ¬S k):PQ w' O a n np q T G:=by
 obtain⟨c,lo,d,v,H,f,i,g⟩:=h
 exact⟨c,lo,d,v,H,f.frame e y_,i,g⟩
theorem PQ.more (h:PQ w O a n np q T G) {T':Nat} (e:T<=T'):PQ w O a n np q T' G:=by
 obtain⟨c,lo,d,v,H,f,i,g⟩:=h
 exact⟨c,lo,d,v,H,f.more e,i,g⟩
def PQ.blocks (h:PQ w O a n np q T G): ∀k,O k->k<w.heap.size:=by
 obtain⟨c,lo,g,v,H,e,i,f⟩:=h
 exact fun k d=>e.p.blocks k ((f k).2 d)
theorem PQ.len (h:PQ w O a n np q T G):G.length=np+1:=by
 obtain⟨c,lo,f,v,H,d,e,g⟩:=h
 rw[<-e,xP];exact d.p.len
theorem PQ.un (h:PQ w O a n np q T G):Un (gh G):=by
 obtain⟨c,lo,d,v,H,e,g,f⟩:=h
 grind[Og,fy,db.un]
def PQ.at {i:Nat} {M:List En} (h:PQ w O a n np q T G) (hi:G[i]? =some M):(M.map (·.1)).Nodup/\(∀y∈M,y.1<n)/\M.length<=mY np n q i/\ ∀y∈M,Ke.aN y.2=true:=by
 obtain⟨l,lo,t,v,H,o,r,z⟩:=h
 rw[<-r] at hi
 simp only[Ms,List.getElem?_map] at hi
 cases j:H[i]? with
 |none=>grind
 |some x=>
  rw[j] at hi
  injection hi with hi
  subst hi
  have e:=o.p.sets.it i x j
  refine⟨dM.nd e,?_,dM.fit e,?_⟩
  ·obtain⟨R,L,k,f⟩:=jy e
   exact f.nN k
  ·obtain⟨R,L,k,f⟩:=jy e
   intro y m
   have c:y∈x.M:=m
   rw[<-f.eq] at c
   rcases ki.1 c with ⟨d,s,_,g⟩|⟨u,_,_,g⟩
   ·rw[g];rfl
   ·rw[g];rfl
def Leaves.pq {c lo d:Nat} {v:Value} {H:List Hd} (i: ∀k,mw a d v H k↔O k) (h:Leaves w w' c lo a d n np q v T H G):PQ w' O a n np q (T+1) G/\Fr O w w':=by
 obtain⟨⟨l,g,j,e⟩,f⟩:=h
 exact⟨⟨c,lo,d,v,l,g,j,fun k=>(e k).trans (i k)⟩,f.wide y_⟩
theorem PQ.put (h:PQ w O a n np q T G) (g:T<=1000000000) (p c:Int) (k:Ke.K) (f:k.ok):
  aB 96 #[ak a,ab p,ab c,.agg (bn k)] w fun e w'=>e= .returned (ab (mE np n (gh G) p c k))/\PQ w' O a n np q (T+1) (iy np n q (gh G) p c k)/\Fr O w w':=by
 obtain⟨d,lo,l,v,H,i,rfl,j⟩:=h
 have e:Ms (gh (Ms H))=Ms H:=fy _
 rw[wQ e,E5 e]
 exact(Gv i g p c k f).mono (fun e w' h=>⟨h.1,h.2.pq j⟩)
def PQ.change (h:PQ w O a n np q T G) (i:T<=1000000000) (c:Int) (d:(Lit.int .i64 c).wf=true) (k:Ke.K) (g:k.ok):
  aB 82 #[ak a,ab c,.agg (bn k)] w fun e w'=>e= .returned (ab (jt n (gh G) c k))/\PQ w' O a n np q (T+1) (gU n (gh G) c k)/\Fr O w w':=by
 obtain⟨f,lo,m,v,H,j,rfl,l⟩:=h
 have e:Ms (gh (Ms H))=Ms H:=fy _
 rw[vU e,GD e]
 exact(wA j i c d k g).mono (fun e w' h=>⟨h.1,h.2.pq l⟩)
def PQ.Ko (h:PQ w O a n np q T G) (p d:Int) (f:0<=d/\d<18446744073709551616):
  vQ 118 #[ak a,ab p,aj d] w (.tuple #[ab (bI (gh G) (bb np (gh G) p d)),.agg (bn (bK (gh G) (bb np (gh G) p d))),ab (bA (bb np (gh G) p d)),.bool (bb np (gh G) p d).isSome]):=by
 obtain⟨c,lo,e,v,H,g,rfl,i⟩:=h
 grind[fy,GZ,KP,K5,rL]
def PQ.take (h:PQ w O a n np q T G) (p d:Int) (f:0<=d/\d<18446744073709551616):
  aB 122 #[ak a,ab p,aj d] w fun e w'=>e=aS #[ab (bI (gh G) (bb np (gh G) p d)),.agg (bn (bK (gh G) (bb np (gh G) p d))),ab (bA (bb np (gh G) p d)),.bool (bb np (gh G) p d).isSome]/\PQ w' O a n np q (T+1) (iw np (gh G) p d)/\Fr O w w':=by
 obtain⟨c,lo,j,v,H,g,rfl,i⟩:=h
 have e:Ms (gh (Ms H))=Ms H:=fy _
 rw[GZ e,KP e,K5 e,Kn e]
 exact(Ce g p d f).mono (fun e w' h=>⟨h.1,h.2.pq i⟩)
end
def Hx (a n q:Nat) (w:World) (g:1<=a/\a<=64) (f:1<=n/\n<=1024) (d:1<=q/\q<=256):
  aB 36 #[ab a,ab n,ab q] w fun e w'=> ∃O,e= .returned (ak (w.heap.size+1))/\PQ w' O (w.heap.size+1) n a q 0 (List.replicate (a+1) [])/\(∀k,O k->w.heap.size<=k)/\aC w w':=by
 refine(tZ a n q w g.1 g.2 f.1 f.2 d.1 d.2).mono ?_
 rintro e m ⟨v,H,rfl,h,b⟩
 have l:=b.Ql h f g d
 refine⟨mw (w.heap.size+1) w.heap.size v H,rfl,⟨_,_,_,v,H,l,?_,fun _=>Iff.rfl⟩,?_,b.jC⟩
 ·apply List.ext_getElem?
  intro i
  rw[List.getElem?_replicate]
  unfold Ms
  rw[List.getElem?_map]
  split
  ·rename_i hi
   have c:H[i]? =some (H[i]' z_):=zX0 _
   rw[c]
   exact congrArg some (b.fresh i _ c).1
  grind
 ·rintro k (e|e|e|⟨i,x,c,j⟩)
  ·omega
  ·omega
  ·have:=(Dc.bN b.row k e).1;omega
  ·have:=b.sets.low i x c k j;omega
end Go.Proofs.YtnmhcgpnhlhcgaaGreatDoor
namespace Go.Proofs.YtnmhcgpnhlhcgaaGreatDoor
open Go.RowKit Go.Lib Go.Deep Go.ChangeShapes Go.WideShapes Go.ChangeAt
def yL {n:Nat} {α:Type} [Inhabited α] {p:Nat->α->Prop} (h: ∀i,i<n-> ∃x,p i x): ∃f:Nat->α,∀i,i<n->p i (f i):=
 ⟨fun i=>if hi:i<n then(h i hi).choose else default,fun i hi=>by simp only[dif_pos hi];exact y_⟩
section
variable {H:Type} {enc:TypeId×Value->H} {w:World} {b:Nat} {a:Nat->Bool} {c:Bool}
end
end Go.Proofs.YtnmhcgpnhlhcgaaGreatDoor
